package seal_test

import (
	"math"
	"math/rand"
	"slices"
	"strings"
	"testing"
	"unsafe"

	"postern/api"
	"postern/seal"
)

// TestP7_5HandedIn: what is handed in is not changed, nor is the room behind it.
func TestP7_5HandedIn(t *testing.T) {
	lists := [][]string{nil, {"a"}, {"a", "b"}, {"b", "a"}, many(16, 32)}
	for _, scopes := range lists {
		room := append(slices.Clone(scopes), "room", "behind")
		kept := slices.Clone(room)
		c := shop()
		c.Scopes = room[:len(scopes)]
		seal.Mint(key(1, none, 0), c)
		seal.Mint(key(0, none, 0), c)
		if !slices.Equal(room, kept) {
			t.Errorf("%q became %q", kept, room)
		}
	}
	rings := noRings()
	rings["one key"], rings["many keys"] = oneKey(), manyKeys()
	for what, r := range rings {
		room := append(slices.Clone(r.Keys), key(7, plum, 7), key(8, peach, 8))
		kept := slices.Clone(room)
		for _, s := range []string{shopToken(), signed(plum, shopHead, shopBody), "", ".."} {
			seal.Open(api.Ring{Keys: room[:len(r.Keys)], Next: r.Next}, s)
		}
		if !slices.Equal(room, kept) {
			t.Errorf("%s: %v became %v", what, kept, room)
		}
	}
}

func spoil[T any](l []T) {
	var zero T
	l = l[:cap(l)]
	for i := range l {
		l[i] = zero
	}
}

// TestP7_5Told: what is told is the caller's own.
func TestP7_5Told(t *testing.T) {
	r := manyKeys()
	c := shop()
	s, _ := seal.Mint(r.Keys[0], c)
	spoil(c.Scopes)
	first, _ := seal.Open(r, s)
	second, _ := seal.Open(r, s)
	_, input, tag, _ := seal.Parts(s)
	_, _, other, _ := seal.Parts(s)
	spoil(r.Keys)
	spoil(second.Scopes)
	spoil(other)
	if s != shopToken() || !alike(first, shop()) || string(tag) != tagBytes(none, input) {
		t.Errorf("they went with others: %q, %v, %x", s, first, tag)
	}
	spoil(first.Scopes)
	spoil(tag)
	if again, e := seal.Open(manyKeys(), s); e != api.OK || !alike(again, shop()) {
		t.Errorf("Open behind all that: %v, %d", again, e)
	}
	wantParts(t, "behind all that", s)
}

// shares tells whether a text lies in another one's memory.
func shares(piece, whole string) bool {
	if piece == "" || whole == "" {
		return false
	}
	a, b := uintptr(unsafe.Pointer(unsafe.StringData(piece))), uintptr(unsafe.Pointer(unsafe.StringData(whole)))
	return a >= b && a < b+uintptr(len(whole)) || b >= a && b < a+uintptr(len(piece))
}

// TestP7_5New: no text that is told lies in one that was handed in.
func TestP7_5New(t *testing.T) {
	s := strings.Clone(shopToken())
	_, input, _, _ := seal.Parts(s)
	c, _ := seal.Open(oneKey(), s)
	for _, told := range append([]string{input, c.Iss, c.Sub, c.Client, c.Aud}, c.Scopes...) {
		if told == "" || shares(told, s) {
			t.Errorf("%q shares memory with what was handed in", told)
		}
	}
}

// TestP7_5Place: the same memory with other contents is another ring, another list.
func TestP7_5Place(t *testing.T) {
	room := []api.Key{key(1, none, 5), key(2, plum, 0)}
	r := api.Ring{Keys: room, Next: 9}
	wantError(t, "kid 1", r, shopToken(), api.OK)
	room[0] = key(1, plum, 5)
	wantError(t, "another secret", r, shopToken(), api.ErrSealTag)
	room[1].Until = 5
	wantError(t, "no ring", r, shopToken(), api.ErrSealKid)
	c := shop()
	wantMint(t, key(1, none, 0), c)
	c.Scopes[0], c.Scopes[1] = "x", "y"
	wantMint(t, key(1, none, 0), c)
}

// TestP7_5Ends: every call ends, without a panic, whatever is handed in.
func TestP7_5Ends(t *testing.T) {
	long := strings.Repeat("n", 1<<20)
	texts := []string{"", ".", "..", "...", "\xff", "\x00.\x00.\x00", "é.é.é", long, long + "." + long + "." + long, strings.Repeat(".", 1<<20), strings.Repeat("\xff", 2048), b64(shopHead) + "..", b64(shopHead) + ".AA.", b64(shopHead) + "." + b64(strings.Repeat("[", 1000)) + "."}
	rings := noRings()
	rings["one key"], rings["many keys"], rings["very many keys"] = oneKey(), manyKeys(), api.Ring{Keys: make([]api.Key, 1<<16), Next: top}
	for what, r := range rings {
		for _, s := range texts {
			wantOpen(t, what, r, s)
		}
	}
	r := rand.New(rand.NewSource(6))
	for range 20000 {
		b := make([]byte, r.Intn(60))
		for i := range b {
			b[i] = pick(r, '.', 'A', '_', '=', 'e', 'y', 'J', byte(r.Intn(256)))
		}
		wantOpen(t, "drawn", oneKey(), string(b))
	}
	for _, kid := range []uint64{0, 1, top, 1 << 63, math.MaxUint64} {
		for _, c := range []api.Claims{{}, {Iss: long, Sub: long, Client: long, Aud: long}, {Iss: "a", Sub: "a", Client: "a", Aud: "a", Scopes: slices.Repeat([]string{long}, 100), Exp: math.MinInt64, Iat: math.MinInt64}, {Iss: "a", Sub: "a", Client: "a", Aud: "a", Scopes: make([]string, 1<<16)}} {
			if s, e := seal.Mint(key(kid, plum, math.MinInt64), c); e == api.OK || s != "" {
				t.Errorf("Mint by kid %d of claims that may not be: %q, %d", kid, s, e)
			}
		}
	}
}
