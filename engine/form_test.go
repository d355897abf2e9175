package engine_test

import (
	"encoding/base64"
	"math"
	"strings"
	"testing"

	"postern/api"
	"postern/engine"
)

func TestP15_1Of(t *testing.T) {
	for _, kind := range kinds() {
		e, bad := engine.Of(kind)
		if bad != api.OK || e == nil || e.Kind() != kind {
			t.Errorf("Of(%d): %v, %d", kind, e, bad)
		}
	}
	for _, kind := range []int{0, 3, -1, -2, 4, 255, 257, 258, 1<<32 + 1, 1<<32 + 2, math.MaxInt, math.MinInt} {
		if e, bad := engine.Of(kind); e != nil || bad != api.ErrEngineKind {
			t.Errorf("Of(%d): %v, %d", kind, e, bad)
		}
	}
	if api.ErrEngineKind != 150 {
		t.Errorf("the error is %d", api.ErrEngineKind)
	}
}

// TestP15_1Keeps: an engine keeps nothing: what it has minted over one ledger another one does not know, and each engine of a kind is as good as another.
func TestP15_1Keeps(t *testing.T) {
	for _, kind := range kinds() {
		e, x, y := of(t, kind), begun(t), begun(t)
		y.SetRing(keys(3, key(2, 0)))
		text, _ := e.Mint(x, example())
		if _, there := e.Find(y, text); there {
			t.Errorf("%d: another ledger has it", kind)
		}
		if _, there := of(t, kind).Find(x, text); !there {
			t.Errorf("%d: another engine has it not", kind)
		}
		of(t, kind).Drop(x, example())
		if _, there := e.Find(x, text); there {
			t.Errorf("%d: it is taken behind another engine's Drop", kind)
		}
	}
}

// isHeld tells by the library's base 64 whether a text is a held token's.
func isHeld(text string) bool {
	if len(text) != 25 || text[:3] != "at_" {
		return false
	}
	b, err := base64.RawURLEncoding.DecodeString(text[3:])
	return err == nil && len(b) == 16 && base64.RawURLEncoding.EncodeToString(b) == text[3:]
}

// formOf tells the form of a text by the chapter's words.
func formOf(text string) int {
	switch {
	case isHeld(text):
		return api.EngineHeld
	case len(text) <= 2048 && len(strings.Split(text, ".")) == 3:
		return api.EngineSealed
	}
	return api.EngineNone
}

func wantForm(t *testing.T, text string, want int) {
	t.Helper()
	if got := engine.Form(text); got != want {
		t.Errorf("Form(%.60q): %d, not %d", text, got, want)
	}
	if model := formOf(text); model != want {
		t.Errorf("Form(%.60q): the model says %d, not %d", text, model, want)
	}
}

func TestP15_2Form(t *testing.T) {
	const zeros = "at_AAAAAAAAAAAAAAAAAAAAAA"
	for _, text := range []string{zeros, "at_-_-_-_-_-_-_-_-_-_-_-w", "at_0123456789abcdefghijkQ", "at_" + strings.Repeat("_", 21) + "w", "at_at_AAAAAAAAAAAAAAAAAAA"} {
		wantForm(t, text, api.EngineHeld)
	}
	for _, text := range []string{"..", "a.b.c", ".a.", "at_..", "at_AAAAAAAAAAAAAAAAAAAA..", "\x00.\xff.\n", " . . ", "é.😀.", strings.Repeat("a", 2046) + "..", ".." + strings.Repeat("a", 2046), "." + strings.Repeat(" ", 2046) + "."} {
		wantForm(t, text, api.EngineSealed)
	}
	for _, text := range []string{
		"", "a", ".", "a.b", "a.b.c.d", "...", "at_", "at", "AT_AAAAAAAAAAAAAAAAAAAAAA", "At_AAAAAAAAAAAAAAAAAAAAAA", " " + zeros, zeros + " ", zeros + "\n", zeros + "=", zeros + "==",
		"at_AAAAAAAAAAAAAAAAAAAAAB", "at_AAAAAAAAAAAAAAAAAAAA+A", "at_AAAAAAAAAAAAAAAAAAAA/A", "at_AAAAAAAAAAAAAAAAAAAA\nA", "at-AAAAAAAAAAAAAAAAAAAAAA", "rt_AAAAAAAAAAAAAAAAAAAAAA", "ac_AAAAAAAAAAAAAAAAAAAAAA", "se_AAAAAAAAAAAAAAAAAAAAAA",
		zeros[3:], zeros + zeros[3:], zeros + zeros, "at_AAAAAAAAAAAAAAAAAAAA.A", "at_AAAAAAAAAAAAAAAAAAAAA。。",
		strings.Repeat("a", 2047) + "..", ".." + strings.Repeat("a", 2047), strings.Repeat("a", 2048), strings.Repeat(".", 2048), "." + strings.Repeat("\x00", 1<<20) + ".",
	} {
		wantForm(t, text, api.EngineNone)
	}
}

// TestP15_2Near: each beginning of held tokens, these with more letters, and with each byte as each other one.
func TestP15_2Near(t *testing.T) {
	for _, text := range []string{"at_AAAAAAAAAAAAAAAAAAAAAA", "at_-_zZ09-_zZ09-_zZ09-_zg"} {
		wantForm(t, text, api.EngineHeld)
		for n := range text {
			wantForm(t, text[:n], api.EngineNone)
		}
		for _, more := range []string{"A", "AA", "AAA", "AAAA", "=", ".", strings.Repeat("A", 22), strings.Repeat("A", 1<<16)} {
			wantForm(t, text+more, api.EngineNone)
		}
		held := 0
		for at := range text {
			for b := range 256 {
				near := []byte(text)
				near[at] = byte(b)
				wantForm(t, string(near), formOf(string(near)))
				if engine.Form(string(near)) == api.EngineHeld {
					held++
				}
			}
		}
		if want := 3 + 21*64 + 4; held != want {
			t.Errorf("%q: %d near texts are held ones, not %d", text, held, want)
		}
	}
}

// TestP15_2Find: Find asks the engine of the text's form, and none of a text of none.
func TestP15_2Find(t *testing.T) {
	x := begun(t)
	a, b := said(one, id(1), 20), said(one, id(2), 30)
	p, q := mint(t, x, api.EngineSealed, a), mint(t, x, api.EngineHeld, b)
	wantTaken(t, "sealed", x, p, a)
	wantTaken(t, "held", x, q, b)
	for _, text := range []string{"", "..", "a.b.c", "at_AAAAAAAAAAAAAAAAAAAAAA", p + ".", "." + p, p + " ", q + " ", q + ".", q + "..", q[3:], "at_" + p, p + q} {
		wantLost(t, "neither's", x, text)
	}
}
