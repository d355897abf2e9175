package seal_test

import (
	"math"
	"math/rand"
	"slices"
	"strconv"
	"strings"
	"testing"

	"postern/api"
	"postern/seal"
)

const top = math.MaxInt64

// Secrets: the examples' one, and two others.
var (
	none  = [32]byte{}
	plum  = [32]byte{1, 2, 3}
	peach = [32]byte{31: 255}
)

func key(kid uint64, secret [32]byte, until int64) api.Key {
	return api.Key{Kid: kid, Secret: secret, Until: until}
}

func keys(next uint64, l ...api.Key) api.Ring { return api.Ring{Keys: l, Next: next} }

// oneKey is the ring of the examples' key alone.
func oneKey() api.Ring { return keys(2, key(1, none, 0)) }

// manyKeys is a full ring, with gaps between its kids, up to the greatest kid that a ring has.
func manyKeys() api.Ring {
	return keys(top, key(1, none, 1), key(2, plum, 5), key(7, none, 9), key(10, peach, top), key(11, plum, 2), key(1<<32, peach, 3), key(1<<62, plum, 4), key(top-1, peach, 0))
}

// shop are the claims that chapter 6's example prints.
func shop() api.Claims {
	return api.Claims{Iss: "iss", Sub: "ann", Client: "shop", Aud: "api", Scopes: []string{"a", "b"}, Grant: 7, Iat: 1, Exp: 9}
}

const (
	shopHead = `{"alg":"HS256","typ":"at+jwt","kid":"1"}`
	shopBody = `{"aud":"api","client_id":"shop","exp":9,"grant":7,"iat":1,"iss":"iss","jti":"AAAAAAAAAAAAAAAAAAAAAA","scope":"a b","sub":"ann"}`
)

// shopToken is the examples' token.
func shopToken() string { return signed(none, shopHead, shopBody) }

// many are n scopes of a length, unlike and in order.
func many(n, size int) []string {
	var l []string
	for i := range n {
		l = append(l, strconv.Itoa(1000+i)+strings.Repeat("s", size-4))
	}
	return l
}

// longest are claims of the longest payload.
func longest() api.Claims {
	name := strings.Repeat("n", 64)
	return api.Claims{Iss: name, Sub: name, Client: name, Aud: name, Scopes: many(16, 32), Grant: top, Iat: top - 1, Exp: top}
}

// someClaims are claims at the edges of what may be.
func someClaims() []api.Claims {
	wide := strings.Repeat("😀", 16)
	return []api.Claims{
		shop(), longest(),
		{Iss: " ", Sub: "é", Client: "�", Aud: "/", Grant: 1, Exp: 1},
		{Iss: wide, Sub: wide, Client: wide, Aud: wide, Scopes: many(16, 32), Grant: top, Iat: 0, Exp: top, ID: api.ID(slices.Repeat([]byte{255}, 16))},
		{Iss: "\u0080", Sub: "\u2028", Client: "<>&", Aud: "'", Scopes: []string{"!", "#", "</>", "~"}, Grant: 1 << 32, Iat: 5, Exp: 6, ID: api.ID{15: 1}},
	}
}

func pick[T any](r *rand.Rand, l ...T) T { return l[r.Intn(len(l))] }

func drawName(r *rand.Rand) string {
	var b strings.Builder
	for b.Len() < 1+r.Intn(61) {
		b.WriteRune(pick(r, 'a', 'Z', ' ', '!', '~', '/', '<', 'é', '�', 0x80, 0x2028, 0x1f600, 0x10ffff))
	}
	return b.String()
}

// drawClaims tells some claims that may be.
func drawClaims(r *rand.Rand) api.Claims {
	c := api.Claims{Iss: drawName(r), Sub: drawName(r), Client: drawName(r), Aud: drawName(r)}
	c.Scopes = many(r.Intn(17), 4+r.Intn(29))
	c.Grant = pick(r, 1, 2, 1<<32, top, 1+uint64(r.Int63n(top)))
	c.Exp = pick(r, 1, 2, top, 1+r.Int63n(top))
	c.Iat = pick(r, 0, c.Exp-1, r.Int63n(c.Exp))
	r.Read(c.ID[:])
	return c
}

// wantOpen holds Open, and Parts beside it, against the model; it tells what Open has to answer.
func wantOpen(t *testing.T, what string, r api.Ring, s string) api.Errno {
	t.Helper()
	c, e := seal.Open(r, s)
	want, f := wantedOpen(r, s)
	if e != f || !alike(c, want) {
		t.Errorf("%s: Open(%v, %q) = %v, %d, want %v, %d", what, r, s, c, e, want, f)
	}
	wantParts(t, what, s)
	return f
}

func wantParts(t *testing.T, what, s string) {
	t.Helper()
	kid, input, tag, e := seal.Parts(s)
	wantKid, wantInput, wantTag, f := wantedParts(s)
	if kid != wantKid || input != wantInput || string(tag) != wantTag || e != f {
		t.Errorf("%s: Parts(%q) = %d, %q, %x, %d, want %d, %q, %x, %d", what, s, kid, input, tag, e, wantKid, wantInput, wantTag, f)
	}
}

// wantError is wantOpen of a text that has to be refused by this error: what the model says is held against it, too.
func wantError(t *testing.T, what string, r api.Ring, s string, want api.Errno) {
	t.Helper()
	if e := wantOpen(t, what, r, s); e != want {
		t.Errorf("%s: Open(%v, %q) has to tell %d, want %d", what, r, s, e, want)
	}
}
