package seal_test

import (
	"math/rand"
	"strings"
	"testing"

	"postern/api"
	"postern/seal"
)

func TestP7_3Parts(t *testing.T) {
	kid, input, tag, e := seal.Parts(shopToken())
	if e != api.OK || kid != 1 || input != b64(shopHead)+"."+b64(shopBody) || string(tag) != tagBytes(none, input) {
		t.Errorf("Parts of the example: %d, %q, %x, %d", kid, input, tag, e)
	}
	for _, kid := range []uint64{1, 2, 10, 1 << 32, top - 1, top} {
		s := signed(plum, headOf(kid), shopBody)
		if got, _, _, e := seal.Parts(s); e != api.OK || got != kid {
			t.Errorf("Parts of %d: %d, %d", kid, got, e)
		}
		wantParts(t, "a kid", s)
	}
}

// TestP7_3Tags: the tag may have any number of bytes, the payload any bytes: nothing is asked of them.
func TestP7_3Tags(t *testing.T) {
	for n := range 200 {
		some := strings.Repeat("\xfb", n)
		for _, body := range []string{"", "x", shopBody, "\x00\xff", some} {
			want := b64(shopHead) + "." + b64(body)
			kid, input, tag, e := seal.Parts(want + "." + b64(some))
			if e != api.OK || kid != 1 || input != want || string(tag) != some {
				t.Errorf("Parts with %d bytes of a tag: %d, %q, %x, %d", n, kid, input, tag, e)
			}
		}
	}
	for _, body := range wrongBodies() {
		if _, _, _, e := seal.Parts(signed(plum, shopHead, body)); e != api.OK {
			t.Errorf("Parts with the payload %q: %d", body, e)
		}
	}
}

// TestP7_3Errors: Open's errors of the first three rows, and no others.
func TestP7_3Errors(t *testing.T) {
	for s, want := range map[string]api.Errno{
		"": api.ErrSealParts, "a.b": api.ErrSealParts, "a.b.c.d": api.ErrSealParts, "!": api.ErrSealParts, shopToken() + ".": api.ErrSealParts, shopToken() + strings.Repeat("A", 2048): api.ErrSealParts,
		"a.b.c": api.ErrSealText, "!..": api.ErrSealText, ".!.": api.ErrSealText, "..!": api.ErrSealText, shopToken() + "=": api.ErrSealText,
		"..": api.ErrSealHead, "AA..": api.ErrSealHead, b64(shopHead+" ") + "..": api.ErrSealHead, b64(headOf(0)) + "..": api.ErrSealHead, b64(headOf(1<<63)) + "..": api.ErrSealHead,
		b64(shopHead) + "..": api.OK, b64(headOf(top)) + ".AA.AA": api.OK,
	} {
		if _, _, _, e := seal.Parts(s); e != want {
			t.Errorf("Parts(%q): %d, want %d", s, e, want)
		}
		wantParts(t, "errors", s)
	}
	for _, head := range wrongHeads() {
		if _, _, _, e := seal.Parts(signed(none, head, shopBody)); e != api.ErrSealHead {
			t.Errorf("Parts with the header %q: %d", head, e)
		}
	}
}

// TestP7_3Open: what Open refuses by another error than the first three, Parts takes; and the other way round.
func TestP7_3Open(t *testing.T) {
	draw := drawTexts(rand.New(rand.NewSource(3)))
	for range 20000 {
		s := draw()
		_, e := seal.Open(oneKey(), s)
		_, _, _, f := seal.Parts(s)
		early := e == api.ErrSealParts || e == api.ErrSealText || e == api.ErrSealHead
		if early && f != e || !early && f != api.OK {
			t.Errorf("%q: Open tells %d, Parts %d", s, e, f)
		}
	}
}
