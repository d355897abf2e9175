package digest

import "postern/api"

// Pass tells a password's digest.
func Pass(salt api.ID, password string, rounds int) ([32]byte, api.Errno) {
	if rounds < 1 || rounds > api.MaxRounds {
		return [32]byte{}, api.ErrDigestRounds
	}
	d := firstDigest(salt, password)
	for range rounds - 1 {
		d = nextDigest(d, salt)
	}
	return d, api.OK
}

func firstDigest(salt api.ID, password string) [sumSize]byte {
	length := numberBytes(uint64(len(password)))
	h := New()
	h.Write(salt[:])
	h.Write(length[:])
	h.Write([]byte(password))
	return h.Sum()
}

func nextDigest(d [sumSize]byte, salt api.ID) [sumSize]byte {
	h := New()
	h.Write(d[:])
	h.Write(salt[:])
	return h.Sum()
}
