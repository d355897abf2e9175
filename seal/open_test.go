package seal_test

import (
	"math/rand"
	"strconv"
	"strings"
	"testing"

	"postern/api"
	"postern/claim"
	"postern/seal"
)

func TestP7_2Open(t *testing.T) {
	if c, e := seal.Open(oneKey(), shopToken()); e != api.OK || !alike(c, shop()) {
		t.Errorf("Open of the example: %v, %d", c, e)
	}
	for _, k := range manyKeys().Keys {
		for _, c := range someClaims() {
			wantError(t, "a key of many", manyKeys(), signed(k.Secret, headOf(k.Kid), bodyOf(c)), api.OK)
		}
	}
	r := rand.New(rand.NewSource(2))
	for range 1000 {
		k, c := pick(r, manyKeys().Keys...), drawClaims(r)
		wantError(t, "drawn", manyKeys(), signed(k.Secret, headOf(k.Kid), bodyOf(c)), api.OK)
	}
}

// TestP7_2Parts: two dots, and no more bytes than a token has.
func TestP7_2Parts(t *testing.T) {
	good := shopToken()
	l := strings.Split(good, ".")
	for _, s := range []string{"", ".", "...", "a.b", "a.b.c.d", "!", "é", good + ".", "." + good, good + "." + good, l[0], l[0] + "." + l[1], l[0] + l[1] + "." + l[2], strings.Join(l, ".."), strings.ReplaceAll(good, ".", ",")} {
		wantError(t, "dots", oneKey(), s, api.ErrSealParts)
	}
	for _, s := range []string{strings.Repeat(".", 2048), strings.Repeat(".", 2049), strings.Repeat("A", 2048), strings.Repeat("A", 1<<20), strings.Repeat("A", 2047) + "..", ".." + strings.Repeat("!", 2047)} {
		wantError(t, "long", oneKey(), s, api.ErrSealParts)
	}
}

// longToken is a rightly signed text of as many bytes, as far as whole letters go: a header of kid 10, and blanks.
func longToken(size int) string {
	letters := size - len(b64(headOf(10))) - 2 - 43
	return signed(peach, headOf(10), strings.Repeat(" ", letters*3/4))
}

func TestP7_2Limit(t *testing.T) {
	for _, size := range []int{2044, 2046, 2047, 2048, 2050, 2051, 2052, 4096} {
		s := longToken(size)
		want := api.ErrSealBody
		if size > 2048 {
			want = api.ErrSealParts
		}
		if len(s) != size {
			t.Fatalf("%d bytes, want %d", len(s), size)
		}
		wantError(t, "a long payload", manyKeys(), s, want)
	}
	// The tag may be long, too: it is no key's, but its part can be read.
	for size := 2030; size < 2070; size++ {
		input := b64(shopHead) + "." + b64(shopBody) + "."
		s := input + strings.Repeat("A", size-len(input))
		want := api.ErrSealTag
		switch {
		case size > 2048:
			want = api.ErrSealParts
		case (size-len(input))%4 == 1:
			want = api.ErrSealText
		}
		wantError(t, "a long tag", oneKey(), s, want)
	}
}

// TestP7_2Text: every part is base64url, in its one form.
func TestP7_2Text(t *testing.T) {
	l := strings.Split(shopToken(), ".")
	wantError(t, "the example", oneKey(), "a.b.c", api.ErrSealText)
	for at := range l {
		for _, part := range []string{"A", l[at] + "=", l[at] + "==", l[at] + "\n", " " + l[at], l[at][:8] + "+" + l[at][9:], l[at][:8] + "/" + l[at][9:], "AB", "AAB", "A=", "\x00AA", "ÿA", "AAAAA"} {
			parts := strings.Split(shopToken(), ".")
			parts[at] = part
			wantError(t, "a part that is none", oneKey(), strings.Join(parts, "."), api.ErrSealText)
			parts[(at+1)%3] = "!"
			wantError(t, "two of them", oneKey(), strings.Join(parts, "."), api.ErrSealText)
		}
	}
	for c := range 256 {
		wantOpen(t, "a letter", oneKey(), string([]byte{byte(c), 'A'})+"."+l[1]+"."+l[2])
		wantOpen(t, "a payload's letter", oneKey(), l[0]+"."+string([]byte{byte(c), 'A'})+"."+l[2])
		wantOpen(t, "a tag's last letter", oneKey(), l[0]+"."+l[1]+"."+l[2][:42]+string([]byte{byte(c)}))
	}
}

// wrongHeads are texts that are no header.
func wrongHeads() []string {
	l := []string{
		"", "{}", "null", "1", `"1"`, " ", `{"alg":"HS256"}`, `{"kid":"1"}`, `{"alg":"HS256","typ":"at+jwt"}`, `{"alg":"HS256","kid":"1"}`, `{"typ":"at+jwt","kid":"1"}`,
		`{"typ":"at+jwt","alg":"HS256","kid":"1"}`, `{"alg":"HS256","kid":"1","typ":"at+jwt"}`, `{"kid":"1","alg":"HS256","typ":"at+jwt"}`, `{"kid":"1","typ":"at+jwt","alg":"HS256"}`,
		`{"alg":"none","typ":"at+jwt","kid":"1"}`, `{"alg":"hs256","typ":"at+jwt","kid":"1"}`, `{"alg":"HS512","typ":"at+jwt","kid":"1"}`, `{"alg":"RS256","typ":"at+jwt","kid":"1"}`, `{"alg":null,"typ":"at+jwt","kid":"1"}`, `{"alg":"","typ":"at+jwt","kid":"1"}`,
		`{"alg":"HS256","typ":"JWT","kid":"1"}`, `{"alg":"HS256","typ":"at+JWT","kid":"1"}`, `{"alg":"HS256","typ":"at jwt","kid":"1"}`, `{"alg":"HS256","typ":"at\u002bjwt","kid":"1"}`, `{"\u0061lg":"HS256","typ":"at+jwt","kid":"1"}`,
		`{"alg":"HS256","typ":"at+jwt","kid":1}`, `{"alg":"HS256","typ":"at+jwt","kid":"1","x":1}`, `{"alg":"HS256","typ":"at+jwt","kid":"1","kid":"1"}`, `{"alg":"HS256","typ":"at+jwt","kid":"2","kid":"1"}`, `{"alg":"none","alg":"HS256","typ":"at+jwt","kid":"1"}`,
		`{"alg":"HS256","typ":"at+jwt","kid":"}`, `{"alg":"HS256","typ":"at+jwt","kid":"1}`, `{"alg":"HS256","typ":"at+jwt","kid":"1"`, `{"alg":"HS256","typ":"at+jwt","kid":"1"}}`, `[{"alg":"HS256","typ":"at+jwt","kid":"1"}]`,
		"\ufeff" + shopHead, shopHead + "\n", shopHead + " ", " " + shopHead, shopHead + shopHead, shopHead + "\x00", "\x00" + shopHead, strings.ToUpper(shopHead), strings.ReplaceAll(shopHead, `"`, "'"),
	}
	for _, kid := range []string{"", "0", "00", "01", "001", "-1", "-0", "+1", " 1", "1 ", "1.0", "1e0", "0x1", "1_0", "one", "\u0661", "\xff", "\\u0031", "9223372036854775808", "9223372036854775809", "18446744073709551615", "18446744073709551616", "18446744073709551617", "-9223372036854775808", "-9223372036854775807", strings.Repeat("1", 1000), `1"`, `1","x":"1`} {
		l = append(l, `{"alg":"HS256","typ":"at+jwt","kid":"`+kid+`"}`)
	}
	for at := range len(shopHead) {
		l = append(l, shopHead[:at]+" "+shopHead[at:], shopHead[:at]+shopHead[at+1:], shopHead[:at], shopHead[at+1:])
	}
	return l
}

func TestP7_2Head(t *testing.T) {
	wantError(t, "nothing", oneKey(), "..", api.ErrSealHead)
	for _, head := range wrongHeads() {
		wantError(t, "no header", oneKey(), signed(none, head, shopBody), api.ErrSealHead)
		wantError(t, "no header, no ring", api.Ring{}, signed(none, head, shopBody), api.ErrSealHead)
		wantError(t, "no header, nothing else", oneKey(), b64(head)+"..", api.ErrSealHead)
	}
	// Each byte of a header as each other one: a kid's digit may become another kid's, or none.
	for at := range len(shopHead) {
		for c := range 256 {
			head := shopHead[:at] + string([]byte{byte(c)}) + shopHead[at+1:]
			want := api.ErrSealHead
			if at == len(shopHead)-3 && c >= '1' && c <= '9' {
				want = api.ErrSealKid
			}
			if head == shopHead {
				want = api.OK
			}
			wantError(t, "another byte", oneKey(), signed(none, head, shopBody), want)
		}
	}
}

// noRings are no rings, though they have the examples' key.
func noRings() map[string]api.Ring {
	full := manyKeys()
	return map[string]api.Ring{
		"nothing": {}, "no keys": keys(2), "no next": keys(0, key(1, none, 0)), "a next too low": keys(1, key(1, none, 0)), "a next too high": keys(1<<63, key(1, none, 0)),
		"no current key": keys(2, key(1, none, 5)), "two current keys": keys(3, key(1, none, 0), key(2, plum, 0)), "falling kids": keys(3, key(2, plum, 5), key(1, none, 0)), "a kid twice": keys(3, key(1, none, 5), key(1, none, 0)),
		"a kid 0": keys(3, key(0, plum, 5), key(1, none, 0)), "an until below 0": keys(3, key(1, none, -5), key(2, none, 0)), "too many keys": keys(1<<40, append([]api.Key{key(1, none, 5)}, full.Keys[1:]...)...),
		"nine keys": keys(20, key(1, none, 1), key(2, none, 1), key(3, none, 1), key(4, none, 1), key(5, none, 1), key(6, none, 1), key(7, none, 1), key(8, none, 1), key(9, none, 0)),
	}
}

func TestP7_2Kid(t *testing.T) {
	for _, kid := range []uint64{2, 3, 10, 11, 1 << 32, top - 1, top} {
		wantError(t, "another kid", oneKey(), signed(none, headOf(kid), shopBody), api.ErrSealKid)
	}
	for _, kid := range []uint64{3, 6, 8, 9, 12, 1<<32 + 1, top - 2, top} {
		wantError(t, "a kid in a gap", manyKeys(), signed(none, headOf(kid), shopBody), api.ErrSealKid)
	}
	for what, r := range noRings() {
		wantError(t, what, r, shopToken(), api.ErrSealKid)
	}
}

func TestP7_2Tag(t *testing.T) {
	good := shopToken()
	input := good[:strings.LastIndex(good, ".")]
	right := tagBytes(none, input)
	for what, tag := range map[string]string{
		"none": "", "one byte": right[:1], "one byte less": right[:31], "without the first": right[1:], "one byte more": right + "\x00", "a byte ahead": "\x00" + right, "twice": right + right,
		"noughts": strings.Repeat("\x00", 32), "another secret's": tagBytes(plum, input), "of the input and a dot": tagBytes(none, input+"."), "of the payload": tagBytes(none, shopBody), "of another input": tagBytes(none, input[1:]),
		"of no letters": tagBytes(none, shopHead+"."+shopBody), "in letters": b64(right), "as text": "cp7553MzO0q266zW7WXgdI3TU1-Ac4TyhM7LXngjEyI",
	} {
		wantError(t, what, oneKey(), input+"."+b64(tag), api.ErrSealTag)
	}
	for at := range 32 {
		for bit := range 8 {
			tag := []byte(right)
			tag[at] ^= 1 << bit
			wantError(t, "a bit", oneKey(), input+"."+b64(string(tag)), api.ErrSealTag)
		}
	}
	// Each key opens what it has sealed, and that alone.
	for _, k := range manyKeys().Keys {
		for _, other := range manyKeys().Keys {
			want := api.ErrSealTag
			if k.Secret == other.Secret {
				want = api.OK
			}
			wantError(t, "another key's", manyKeys(), signed(other.Secret, headOf(k.Kid), shopBody), want)
		}
	}
	k := key(1, none, 0)
	for at := range k.Secret {
		k.Secret[at] ^= 128
		wantError(t, "another secret of the ring", keys(2, k), good, api.ErrSealTag)
		k.Secret[at] ^= 128
	}
}

// wrongBodies are texts that are no payload.
func wrongBodies() []string {
	l := []string{"", "{}", "null", "1", `""`, "[]", " ", "[" + shopBody + "]", `{"a":` + shopBody + `}`, shopBody + shopBody, shopBody + "}", shopBody + "\n", shopBody + "\x00", " " + shopBody, "\ufeff" + shopBody, `{"sub":"ann",` + shopBody[1:], `{"aud":"api",` + shopBody[1:], strings.Repeat("[", 40)}
	for _, swap := range [][2]string{
		{"api", ""}, {"api", `a\u0070i`}, {"api", `a\/i`}, {"api", `a\"i`}, {"api", `a\\i`}, {"api", "a\ni"}, {"api", `a\ni`}, {"api", "a\x7fi"}, {"api", `a\u007fi`}, {"api", "\xff"}, {"api", "\xed\xa0\x80"}, {"api", strings.Repeat("n", 65)}, {"api", strings.Repeat("é", 33)}, {`"api"`, "null"}, {`"api"`, `["api"]`}, {`"api"`, "1"},
		{`"ann"`, `"\u0061nn"`}, {`"ann"`, `"\u00e9"`}, {`"ann"`, `"\ud83d\ude00"`}, {`"ann"`, `""`}, {`"ann"`, "null"}, {`"sub"`, `"\u0073ub"`}, {`"sub"`, `"Sub"`}, {`"sub"`, `"aud"`}, {`,"sub":"ann"`, ""}, {`"ann"}`, `"ann","x":1}`}, {`"ann"}`, `"ann",}`}, {`"ann"}`, `"ann"`},
		{`:9,`, `:9.0,`}, {`:9,`, `:9e0,`}, {`:9,`, `:09,`}, {`:9,`, `:"9",`}, {`:9,`, `:+9,`}, {`:9,`, `:1,`}, {`:9,`, `:0,`}, {`:9,`, `:-9,`}, {`:9,`, `:9223372036854775808,`}, {`:9,`, `:18446744073709551625,`}, {`:9,`, `:null,`}, {`:9,`, `:,`},
		{`:7,`, `:0,`}, {`:7,`, `:-0,`}, {`:7,`, `:-7,`}, {`:7,`, `:9223372036854775808,`}, {`:7,`, `:18446744073709551623,`}, {`:7,`, `:"7",`}, {`:7,`, `:7.0,`}, {`:1,`, `:-1,`}, {`:1,`, `:-0,`}, {`:1,`, `:9,`}, {`:1,`, `:10,`}, {`:1,`, `:1.5,`}, {`:1,`, `:true,`},
		{"AAAAAAAAAAAAAAAAAAAAAA", ""}, {"AAAAAAAAAAAAAAAAAAAAAA", "AAAAAAAAAAAAAAAAAAAAAB"}, {"AAAAAAAAAAAAAAAAAAAAAA", "AAAAAAAAAAAAAAAAAAAAA"}, {"AAAAAAAAAAAAAAAAAAAAAA", "AAAAAAAAAAAAAAAAAAAAAAA"}, {"AAAAAAAAAAAAAAAAAAAAAA", "AAAAAAAAAAAAAAAAAAAAAA=="}, {"AAAAAAAAAAAAAAAAAAAAAA", "+AAAAAAAAAAAAAAAAAAAAA"}, {"AAAAAAAAAAAAAAAAAAAAAA", "AAAAAAAAAAAAAAAAAAAA=="},
		{`"a b"`, `"b a"`}, {`"a b"`, `"a a"`}, {`"a b"`, `"a  b"`}, {`"a b"`, `" a"`}, {`"a b"`, `"a "`}, {`"a b"`, `" "`}, {`"a b"`, `"a\u0020b"`}, {`"a b"`, `"a\tb"`}, {`"a b"`, `"é"`}, {`"a b"`, `["a","b"]`}, {`"a b"`, `"` + strings.Repeat("s", 33) + `"`}, {`"a b"`, `"` + strings.Join(many(17, 8), " ") + `"`}, {`"a b"`, "null"},
	} {
		l = append(l, strings.Replace(shopBody, swap[0], swap[1], 1))
	}
	entries := strings.Split(strings.Trim(shopBody, "{}"), ",")
	for i := range entries {
		for j := range i {
			other := strings.Split(strings.Trim(shopBody, "{}"), ",")
			other[i], other[j] = other[j], other[i]
			l = append(l, "{"+strings.Join(other, ",")+"}")
		}
		l = append(l, "{"+strings.Join(append(append([]string{}, entries[:i]...), entries[i+1:]...), ",")+"}", strings.Replace(shopBody, entries[i], entries[i]+","+entries[i], 1), strings.Replace(shopBody, entries[i], entries[i]+`,"x":1`, 1))
	}
	return l
}

func TestP7_2Body(t *testing.T) {
	for _, body := range wrongBodies() {
		if body == shopBody {
			t.Fatal("a wrong payload is the right one")
		}
		wantError(t, "no payload", oneKey(), signed(none, shopHead, body), api.ErrSealBody)
	}
	// A blank between any two bytes, a byte left out, all that stands ahead of one: sometimes that is another payload.
	for at := range len(shopBody) {
		for _, body := range []string{shopBody[:at] + " " + shopBody[at:], shopBody[:at] + "\n" + shopBody[at:], shopBody[:at] + shopBody[at+1:], shopBody[:at], shopBody[at+1:]} {
			wantOpen(t, "a changed payload", oneKey(), signed(none, shopHead, body))
		}
		for _, c := range []byte{0, 31, ' ', '"', '\\', '/', '0', '1', '9', 'A', 'a', '}', 127, 128, 195, 255} {
			wantOpen(t, "another byte of the payload", oneKey(), signed(none, shopHead, shopBody[:at]+string([]byte{c})+shopBody[at+1:]))
		}
	}
}

// TestP7_2Claims: claims that claim.Check refuses are refused, however well they are written and signed.
func TestP7_2Claims(t *testing.T) {
	for _, l := range wrongClaims() {
		for _, c := range l {
			// These scopes are no set, but written as another one is.
			if text := strings.Join(c.Scopes, "|"); text == "" || text == "a b" {
				continue
			}
			wantError(t, "claims that may not be", oneKey(), signed(none, shopHead, bodyOf(c)), api.ErrSealBody)
		}
	}
	for _, c := range someClaims() {
		if claim.Check(c) != api.OK {
			t.Errorf("%v may not be", c)
		}
		wantError(t, "claims that may be", oneKey(), signed(none, shopHead, bodyOf(c)), api.OK)
	}
}

// TestP7_2Times: neither a key's Until nor the claims' times are looked at.
func TestP7_2Times(t *testing.T) {
	for _, until := range []int64{1, 2, 8, 9, 10, top} {
		for _, times := range [][2]int64{{0, 1}, {1, 9}, {top - 1, top}, {0, top}} {
			c := shop()
			c.Iat, c.Exp = times[0], times[1]
			wantError(t, "until "+strconv.FormatInt(until, 10), keys(3, key(1, none, until), key(2, plum, 0)), signed(none, shopHead, bodyOf(c)), api.OK)
		}
	}
}

// TestP7_2First: of several errors the first one in the chapter's order.
func TestP7_2First(t *testing.T) {
	faults := []api.Errno{api.ErrSealParts, api.ErrSealText, api.ErrSealHead, api.ErrSealKid, api.ErrSealTag, api.ErrSealBody}
	for set := range 1 << len(faults) {
		has := func(e api.Errno) bool { return set>>(e-api.ErrSealParts)&1 == 1 }
		head, body, secret := shopHead, shopBody, none
		if has(api.ErrSealKid) {
			head = headOf(2)
		}
		if has(api.ErrSealHead) {
			head = strings.Replace(head, "HS256", "none", 1)
		}
		if has(api.ErrSealBody) {
			body = strings.Replace(body, "api", "", 1)
		}
		if has(api.ErrSealTag) {
			secret = plum
		}
		s := signed(secret, head, body)
		want := api.OK
		for i, e := range faults {
			if set>>i&1 == 1 {
				want = e
				break
			}
		}
		texts := []string{s}
		if has(api.ErrSealText) {
			texts = []string{"!" + s, strings.Replace(s, ".", "!.", 1), strings.Replace(s, ".", ".!", 1), s + "!"}
		}
		for _, s := range texts {
			if !has(api.ErrSealParts) {
				wantError(t, "faults", oneKey(), s, want)
				continue
			}
			wantError(t, "faults, and a dot more", oneKey(), s+".", want)
			wantError(t, "faults, and a dot less", oneKey(), strings.Replace(s, ".", "", 1), want)
			wantError(t, "faults, and too long", oneKey(), s+strings.Repeat("A", 2048), want)
		}
	}
}
