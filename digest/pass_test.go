package digest_test

import (
	"crypto/sha256"
	"math"
	"math/rand"
	"strings"
	"testing"

	"postern/api"
	"postern/digest"
)

func wantPass(t *testing.T, salt api.ID, password string, rounds int) {
	t.Helper()
	list := wantedPass(salt, password, rounds)
	if d, e := digest.Pass(salt, password, rounds); d != list[rounds-1] || e != api.OK {
		t.Errorf("Pass(%x, %q, %d) = %x, %d, want %x", salt, password, rounds, d, e, list[rounds-1])
	}
}

func TestP4_5Examples(t *testing.T) {
	salt := api.ID{1, 2, 15: 255}
	if d, e := digest.Pass(salt, "", 1); d != sha256.Sum256(append(salt[:], make([]byte, 8)...)) || e != api.OK {
		t.Errorf("Pass of no password = %x, %d", d, e)
	}
	for _, n := range []int{0, 4097} {
		if d, e := digest.Pass(salt, "x", n); d != [32]byte{} || e != api.ErrDigestRounds {
			t.Errorf("Pass of %d rounds = %x, %d", n, d, e)
		}
	}
}

func TestP4_5Rounds(t *testing.T) {
	salt := api.ID([]byte("the salt of some"))
	list := wantedPass(salt, "a password", 4096)
	for n := 1; n <= 4096; n++ {
		if n > 70 && n < 4090 && n&(n-1) != 0 {
			continue
		}
		if d, e := digest.Pass(salt, "a password", n); d != list[n-1] || e != api.OK {
			t.Errorf("Pass of %d rounds = %x, %d, want %x", n, d, e, list[n-1])
		}
	}
	for _, n := range []int{0, -1, -4096, 4097, 4098, 8192, 1 << 32, 1<<32 + 1, math.MaxInt, math.MinInt, math.MinInt + 1} {
		for _, password := range []string{"", "x", "a password"} {
			if d, e := digest.Pass(salt, password, n); d != [32]byte{} || e != api.ErrDigestRounds {
				t.Errorf("Pass of %d rounds = %x, %d", n, d, e)
			}
		}
	}
}

func TestP4_5Passwords(t *testing.T) {
	r := rand.New(rand.NewSource(10))
	for n := range 300 {
		wantPass(t, someID(r), string(someBytes(r, n)), 1+r.Intn(4))
		wantPass(t, api.ID{}, strings.Repeat("\x00", n), 2)
	}
	for _, password := range []string{"päßwörd", "\xff\xfe", "\x00", strings.Repeat("long", 1<<14)} {
		for rounds := 1; rounds < 4; rounds++ {
			wantPass(t, api.ID{9}, password, rounds)
		}
	}
}

// TestP4_5EachCounts: another salt, another password, another number of rounds make another digest.
func TestP4_5EachCounts(t *testing.T) {
	seen := map[[32]byte]int{}
	for _, salt := range []api.ID{{}, {1}, {15: 1}} {
		for _, password := range []string{"", "\x00", "a", "a\x00", "A"} {
			for rounds := 1; rounds < 4; rounds++ {
				d, e := digest.Pass(salt, password, rounds)
				if seen[d]++; seen[d] > 1 || e != api.OK {
					t.Errorf("Pass(%x, %q, %d) = %x, %d: not the first time", salt, password, rounds, d, e)
				}
			}
		}
	}
}
