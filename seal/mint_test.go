package seal_test

import (
	"math"
	"math/rand"
	"strings"
	"testing"

	"postern/api"
	"postern/claim"
	"postern/seal"
)

func wantMint(t *testing.T, k api.Key, c api.Claims) {
	t.Helper()
	want := signed(k.Secret, headOf(k.Kid), bodyOf(c))
	if s, e := seal.Mint(k, c); e != api.OK || s != want || len(s) > 2048 {
		t.Errorf("Mint(%v, %v) = %q, %d, want %q", k, c, s, e, want)
	}
}

func wantNoMint(t *testing.T, k api.Key, c api.Claims, want api.Errno) {
	t.Helper()
	if s, e := seal.Mint(k, c); e != want || s != "" {
		t.Errorf("Mint(%v, %v) = %q, %d, want %d", k, c, s, e, want)
	}
}

func TestP7_1Example(t *testing.T) {
	s, e := seal.Mint(key(1, none, 0), shop())
	want := "eyJhbGciOiJIUzI1NiIsInR5cCI6ImF0K2p3dCIsImtpZCI6IjEifQ." +
		"eyJhdWQiOiJhcGkiLCJjbGllbnRfaWQiOiJzaG9wIiwiZXhwIjo5LCJncmFudCI6NywiaWF0IjoxLCJpc3MiOiJpc3MiLCJqdGkiOiJBQUFBQUFBQUFBQUFBQUFBQUFBQUFBIiwic2NvcGUiOiJhIGIiLCJzdWIiOiJhbm4ifQ." +
		"cp7553MzO0q266zW7WXgdI3TU1-Ac4TyhM7LXngjEyI"
	if e != api.OK || s != want || s != shopToken() {
		t.Errorf("Mint of the example: %q, %d", s, e)
	}
}

func TestP7_1Mint(t *testing.T) {
	for _, kid := range []uint64{1, 2, 9, 10, 11, 1 << 32, top - 1, top} {
		for _, secret := range [][32]byte{none, plum, peach} {
			for _, c := range someClaims() {
				wantMint(t, key(kid, secret, 0), c)
			}
		}
	}
	r := rand.New(rand.NewSource(1))
	for range 2000 {
		k := key(1+uint64(r.Int63n(top)), none, 0)
		r.Read(k.Secret[:])
		wantMint(t, k, drawClaims(r))
	}
}

// TestP7_1Until: a key mints whatever its Until is.
func TestP7_1Until(t *testing.T) {
	for _, until := range []int64{math.MinInt64, -1, 0, 1, 8, 9, top} {
		wantMint(t, key(1, plum, until), shop())
	}
}

// TestP7_1Scopes: nil and empty lists are one.
func TestP7_1Scopes(t *testing.T) {
	c := shop()
	c.Scopes = nil
	wantMint(t, key(1, plum, 0), c)
	c.Scopes = []string{}
	wantMint(t, key(1, plum, 0), c)
}

// wrongClaims are claims that may not be, each by another cause, with their errors.
func wrongClaims() map[api.Errno][]api.Claims {
	l := map[api.Errno][]api.Claims{}
	add := func(e api.Errno, change func(c *api.Claims)) {
		c := shop()
		change(&c)
		l[e] = append(l[e], c)
	}
	for _, name := range []string{"", "a\n", `"`, `\`, "\x7f", "\xff", strings.Repeat("n", 65)} {
		add(api.ErrClaimName, func(c *api.Claims) { c.Iss = name })
		add(api.ErrClaimName, func(c *api.Claims) { c.Sub = name })
		add(api.ErrClaimName, func(c *api.Claims) { c.Client = name })
		add(api.ErrClaimName, func(c *api.Claims) { c.Aud, c.Exp = name, 0 })
	}
	for _, scopes := range [][]string{{"b", "a"}, {"a", "a"}, {""}, {"a b"}, {"é"}, many(17, 8), {strings.Repeat("s", 33)}} {
		add(api.ErrClaimScope, func(c *api.Claims) { c.Scopes = scopes })
	}
	for _, times := range [][2]int64{{5, 5}, {9, 8}, {-1, 5}, {0, 0}, {top, math.MinInt64}} {
		add(api.ErrClaimTime, func(c *api.Claims) { c.Iat, c.Exp = times[0], times[1] })
	}
	for _, grant := range []uint64{0, 1 << 63, math.MaxUint64} {
		add(api.ErrClaimForm, func(c *api.Claims) { c.Grant = grant })
	}
	return l
}

// TestP7_1Errors: the kid's error comes first, then claim's.
func TestP7_1Errors(t *testing.T) {
	badKids := []uint64{0, 1 << 63, 1<<63 + 1, math.MaxUint64}
	for _, kid := range badKids {
		wantNoMint(t, key(kid, plum, 0), shop(), api.ErrSealKid)
		wantNoMint(t, key(kid, plum, 0), api.Claims{}, api.ErrSealKid)
	}
	wantNoMint(t, key(1, plum, 0), api.Claims{}, api.ErrClaimName)
	for want, l := range wrongClaims() {
		for _, c := range l {
			if e := claim.Check(c); e != want {
				t.Errorf("Check(%v) = %d, want %d", c, e, want)
			}
			for _, kid := range []uint64{1, top} {
				wantNoMint(t, key(kid, plum, 0), c, want)
			}
			for _, kid := range badKids {
				wantNoMint(t, key(kid, plum, 0), c, api.ErrSealKid)
			}
		}
	}
}

// TestP7_1Longest: the longest token there is fits, and is opened.
func TestP7_1Longest(t *testing.T) {
	k := key(top-1, peach, 0)
	s, e := seal.Mint(k, longest())
	if e != api.OK || len(s) > api.MaxToken {
		t.Fatalf("the longest token has %d bytes, %d", len(s), e)
	}
	if c, e := seal.Open(keys(top, k), s); e != api.OK || !alike(c, longest()) {
		t.Errorf("it is opened as %v, %d", c, e)
	}
}
