package digest_test

import (
	"bytes"
	"crypto/hmac"
	"crypto/sha256"
	"encoding/binary"
	"encoding/hex"
	"math/rand"
	"strings"

	"postern/api"
)

// The model takes the library's SHA-256 and HMAC; a password's digests are made of these by the chapter's words.

func unhex(s string) []byte {
	b, err := hex.DecodeString(strings.ReplaceAll(s, " ", ""))
	if err != nil {
		panic(err)
	}
	return b
}

func wantedMac(key, b []byte) [32]byte {
	m := hmac.New(sha256.New, key)
	m.Write(b)
	return [32]byte(m.Sum(nil))
}

// wantedPass tells the digests of 1, 2 .. rounds rounds.
func wantedPass(salt api.ID, password string, rounds int) [][32]byte {
	row := append(salt[:], binary.BigEndian.AppendUint64(nil, uint64(len(password)))...)
	list := [][32]byte{sha256.Sum256(append(row, password...))}
	for len(list) < rounds {
		ahead := list[len(list)-1]
		list = append(list, sha256.Sum256(bytes.Join([][]byte{ahead[:], salt[:]}, nil)))
	}
	return list
}

func someBytes(r *rand.Rand, n int) []byte {
	b := make([]byte, n)
	r.Read(b)
	return b
}

func someID(r *rand.Rand) api.ID { return api.ID(someBytes(r, 16)) }
