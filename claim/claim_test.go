package claim_test

import (
	"math/rand"
	"slices"
	"strings"
	"testing"
	"unicode/utf8"

	"postern/api"
	"postern/claim"
)

// badTexts are no good UTF-8.
func badTexts() []string {
	return []string{"\xff", "a\x80", "\xc3", "\xc3(", "é\xc3", "\xc0\x80", "\xe0\x80\x80", "\xe2\x82", "\xed\xa0\x80", "\xf0\x9f\x98", "\xf4\x90\x80\x80", "�\xef\xbf"}
}

func wantName(t *testing.T, s string, want bool) {
	t.Helper()
	if claim.Name(s) != want {
		t.Errorf("Name(%q) is not %v", s, want)
	}
}

func wantScope(t *testing.T, s string, want bool) {
	t.Helper()
	if claim.Scope(s) != want {
		t.Errorf("Scope(%q) is not %v", s, want)
	}
}

func TestP6_1Name(t *testing.T) {
	for _, s := range []string{"é b", "a", " ", " a ", "a b", "'", "/", "!", "~", "�", "😀", "\u0080", "\u009f", "\u2028", "\U0010ffff", "a:b@c"} {
		wantName(t, s, true)
	}
	for _, s := range []string{"", "a\n", "\x00", "\x1f", "a\x7f", `"`, `\`, `a"b`, `a\b`, "\t", "é\x7f"} {
		wantName(t, s, false)
	}
	for _, s := range badTexts() {
		wantName(t, s, false)
		wantName(t, "ok"+s, false)
		wantName(t, s+"ok", false)
	}
	for c := rune(0); c <= utf8.MaxRune; c++ {
		if !utf8.ValidRune(c) || c > 0x1000 && c < 0x10ff00 && c%61 != 0 {
			continue
		}
		for _, s := range []string{string(c), "é" + string(c), string(c) + "z"} {
			wantName(t, s, c >= 32 && c != 127 && c != '"' && c != '\\')
		}
	}
}

// TestP6_1NameLength: it is bytes that are counted.
func TestP6_1NameLength(t *testing.T) {
	for n := range 140 {
		wantName(t, strings.Repeat("n", n), n >= 1 && n <= 64)
		wantName(t, strings.Repeat("é", n), n >= 1 && n <= 32)
		wantName(t, strings.Repeat("😀", n), n >= 1 && n <= 16)
	}
	wantName(t, strings.Repeat("n", 62)+"é", true)
	wantName(t, strings.Repeat("n", 63)+"é", false)
	wantName(t, strings.Repeat("n", 63)+"\n", false)
	wantName(t, strings.Repeat("n", 63)+"\xff", false)
	wantName(t, strings.Repeat("n", 1<<20), false)
}

func TestP6_1Scope(t *testing.T) {
	for _, s := range []string{"a:b", "a", "!", "~", "#", "[", "]", "https://x/y?z=1", strings.Repeat("s", 32)} {
		wantScope(t, s, true)
	}
	for _, s := range []string{"", "a b", "é", " ", "a ", "\x7f", "a\"", `\`, "\u0100", "�", "a\n", strings.Repeat("s", 33), strings.Repeat("s", 1<<20), strings.Repeat("s", 31) + "é"} {
		wantScope(t, s, false)
	}
	for _, s := range badTexts() {
		wantScope(t, s, false)
	}
	for n := range 70 {
		wantScope(t, strings.Repeat("~", n), n >= 1 && n <= 32)
	}
	for i := range 1 << 16 {
		two := string([]byte{byte(i >> 8), byte(i)})
		wantScope(t, two, wantedScope(two))
		wantScope(t, two[1:], wantedScope(two[1:]))
		wantName(t, two, wantedName(two))
	}
}

func wantCheck(t *testing.T, what string, c api.Claims, want api.Errno) {
	t.Helper()
	if e := claim.Check(c); e != want {
		t.Errorf("%s: Check(%v) = %d, want %d", what, c, e, want)
	}
	v, e := claim.Map(c)
	if e != want || want != api.OK && !same(v, api.Value{}) {
		t.Errorf("%s: Map(%v) = %v, %d, want %d", what, c, v, e, want)
	}
}

// wrong are changes after which claims may not be, by the errors that come of them.
func wrong() map[api.Errno][]func(c *api.Claims) {
	l := map[api.Errno][]func(c *api.Claims){}
	for _, s := range []string{"", "a\n", `"`, "\xff", strings.Repeat("n", 65)} {
		l[api.ErrClaimName] = append(l[api.ErrClaimName],
			func(c *api.Claims) { c.Iss = s }, func(c *api.Claims) { c.Sub = s }, func(c *api.Claims) { c.Client = s }, func(c *api.Claims) { c.Aud = s })
	}
	for _, scopes := range [][]string{{"b", "a"}, {"a", "a"}, {"a", "b", "b"}, {""}, {"a b"}, {"é"}, {"a", strings.Repeat("s", 33)}, many(17), {"a", "b", "ab"}, {"a", "B"}} {
		l[api.ErrClaimScope] = append(l[api.ErrClaimScope], func(c *api.Claims) { c.Scopes = scopes })
	}
	for _, times := range [][2]int64{{5, 5}, {6, 5}, {-1, 5}, {-2, -1}, {0, 0}, {0, -1}, {top, top}, {top, -top - 1}, {-top - 1, top}, {-top - 1, -top - 1}} {
		l[api.ErrClaimTime] = append(l[api.ErrClaimTime], func(c *api.Claims) { c.Iat, c.Exp = times[0], times[1] })
	}
	for _, n := range []uint64{0, 1 << 63, 1<<63 + 1, 1<<64 - 1} {
		l[api.ErrClaimForm] = append(l[api.ErrClaimForm], func(c *api.Claims) { c.Grant = n })
	}
	return l
}

func TestP6_3Check(t *testing.T) {
	wantCheck(t, "the example", shop(), api.OK)
	wantCheck(t, "the zero claims", api.Claims{}, api.ErrClaimName)
	for _, change := range []func(c *api.Claims){
		func(c *api.Claims) { c.Scopes = nil }, func(c *api.Claims) { c.Scopes = []string{} }, func(c *api.Claims) { c.Scopes = many(16) }, func(c *api.Claims) { c.Scopes = []string{"B", "a", "ab"} },
		func(c *api.Claims) { c.Iat, c.Exp = 0, 1 }, func(c *api.Claims) { c.Iat, c.Exp = top-1, top }, func(c *api.Claims) { c.Iat, c.Exp = 0, top },
		func(c *api.Claims) { c.Grant = 1 }, func(c *api.Claims) { c.Grant = top }, func(c *api.Claims) { c.ID[15] = 255 },
		func(c *api.Claims) { c.Iss, c.Sub, c.Client, c.Aud = "é b", strings.Repeat("n", 64), " ", "�" },
	} {
		wantCheck(t, "a good change", shopBut(change), api.OK)
	}
	for want, changes := range wrong() {
		for _, change := range changes {
			wantCheck(t, "a wrong change", shopBut(change), want)
		}
	}
}

// TestP6_3First: of several errors the first one in the chapter's order.
func TestP6_3First(t *testing.T) {
	order := []api.Errno{api.ErrClaimName, api.ErrClaimScope, api.ErrClaimTime, api.ErrClaimForm}
	changes := wrong()
	for i, first := range order {
		for _, second := range order[i:] {
			for _, one := range changes[first] {
				for _, other := range changes[second] {
					c := shopBut(other)
					one(&c)
					wantCheck(t, "two wrong changes", c, first)
				}
			}
		}
	}
	r := rand.New(rand.NewSource(1))
	for range 5000 {
		c := drawClaims(r)
		for _, e := range order {
			if r.Intn(3) == 0 {
				pick(r, changes[e]...)(&c)
			}
		}
		wantCheck(t, "drawn", c, wantedCheck(c))
	}
}

func wantSame(t *testing.T, a, b api.Claims, want bool) {
	t.Helper()
	if claim.Same(a, b) != want || claim.Same(b, a) != want {
		t.Errorf("Same of %v and %v is not %v", a, b, want)
	}
}

func TestP6_5Same(t *testing.T) {
	wantSame(t, shop(), shop(), true)
	wantSame(t, api.Claims{}, api.Claims{Scopes: []string{}}, true)
	for _, change := range []func(c *api.Claims){
		func(c *api.Claims) { c.Iss += "x" }, func(c *api.Claims) { c.Sub = "Ann" }, func(c *api.Claims) { c.Client = "" }, func(c *api.Claims) { c.Aud = "\xff" },
		func(c *api.Claims) { c.Iss, c.Sub = c.Sub, c.Iss }, func(c *api.Claims) { c.Client, c.Aud = c.Aud, c.Client }, func(c *api.Claims) { c.Iat, c.Exp = c.Exp, c.Iat },
		func(c *api.Claims) { c.Grant = 8 }, func(c *api.Claims) { c.Grant += 1 << 63 }, func(c *api.Claims) { c.Iat = -1 }, func(c *api.Claims) { c.Exp = 10 },
		func(c *api.Claims) { c.ID[0] = 1 }, func(c *api.Claims) { c.ID[15] = 128 },
	} {
		wantSame(t, shop(), shopBut(change), false)
		wantSame(t, shopBut(change), shopBut(change), true)
	}
	for _, a := range lists(3, "a", "b", "") {
		for _, b := range lists(3, "a", "b", "") {
			one := shopBut(func(c *api.Claims) { c.Scopes = a })
			other := shopBut(func(c *api.Claims) { c.Scopes = slices.Clone(b) })
			wantSame(t, one, other, alike(one, other))
		}
	}
}
