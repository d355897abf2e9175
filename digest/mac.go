package digest

// What a key's bytes are bent by, around the digest inside and in it.
const (
	outerBend = 0x5c
	innerBend = 0x36
)

// Mac tells the HMAC-SHA256.
func Mac(key, b []byte) [32]byte {
	if len(key) > blockSize {
		short := Sum(key)
		key = short[:]
	}
	inner := sumBehindKey(key, innerBend, b)
	return sumBehindKey(key, outerBend, inner[:])
}

// sumBehindKey tells the digest of a key of at most a block, filled up and bent, and b behind it.
func sumBehindKey(key []byte, bend byte, b []byte) [sumSize]byte {
	k := [blockSize]byte{}
	copy(k[:], key)
	for i := range k {
		k[i] ^= bend
	}
	h := New()
	h.Write(k[:])
	h.Write(b)
	return h.Sum()
}

// Same tells whether two rows of bytes are alike.
func Same(a, b []byte) bool {
	if len(a) != len(b) {
		return false
	}
	for len(a) > 0 {
		if front(a) != front(b) {
			return false
		}
		n := min(len(a), sumSize)
		a, b = a[n:], b[n:]
	}
	return true
}

// front tells a row's first bytes as an array, bytes 00 behind them if they are too few.
func front(b []byte) [sumSize]byte {
	piece := [sumSize]byte{}
	copy(piece[:], b)
	return piece
}
