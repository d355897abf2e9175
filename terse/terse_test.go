package terse_test

import (
	"encoding/json"
	"math"
	"math/rand"
	"runtime"
	"slices"
	"strconv"
	"strings"
	"testing"
	"unicode/utf8"

	"postern/api"
	"postern/terse"
)

// badTexts are no good UTF-8.
func badTexts() []string {
	return []string{
		"\xff", "a\x80", "\xc3", "\xc3(", "é\xc3", "\xc0\x80", "\xc1\xbf", "\xe0\x80\x80", "\xe0\x9f\xbf", "\xe2\x82", "\xed\xa0\x80", "\xed\xbf\xbf", "\xf0\x8f\xbf\xbf", "\xf0\x9f\x98", "\xf4\x90\x80\x80", "\xf5\x80\x80\x80", "\xf8\x88\x80\x80\x80", "�\xef\xbf",
	}
}

func TestP2_1Good(t *testing.T) {
	for _, s := range []string{"", "a", "\x00", "\"\\\n", "\x7f", "é", "�", "😀", "\U0010ffff", "\ud7ff\ue000", strings.Repeat("é", 10000)} {
		if !terse.Good(s) {
			t.Errorf("Good(%q) is false", s)
		}
	}
	for _, s := range badTexts() {
		for _, s := range []string{s, "ok" + s, s + "ok", strings.Repeat("x", 100) + s} {
			if terse.Good(s) || terse.Plain(s) {
				t.Errorf("Good(%q) or Plain is true", s)
			}
		}
	}
	// Every row of two bytes, and of three behind a first byte of three, that decodes to the bytes it is made of.
	for i := range 1 << 16 {
		for _, b := range [][]byte{{byte(i >> 8), byte(i)}, {0xe0, byte(i >> 8), byte(i)}, {0xed, byte(i >> 8), byte(i)}, {0xf4, byte(i >> 8), byte(i), 0x80}} {
			s := string(b)
			if want := string([]rune(s)) == s; terse.Good(s) != want {
				t.Errorf("Good(%q) is not %v", s, want)
			}
		}
	}
}

func TestP2_1Plain(t *testing.T) {
	if !terse.Plain("") || !terse.Plain("é") || terse.Plain("a\x7f") {
		t.Error("the chapter's texts")
	}
	for c := rune(0); c <= 0x10ffff; c++ {
		if !utf8.ValidRune(c) || c > 0x1000 && c < 0x10ff00 && c%251 != 0 {
			continue
		}
		want := c >= 32 && c != 127 && c != 34 && c != 92
		for _, s := range []string{string(c), "é" + string(c), string(c) + "z"} {
			if terse.Plain(s) != want {
				t.Errorf("Plain(%q) is not %v", s, want)
			}
		}
	}
}

type checked struct {
	v    api.Value
	want api.Errno
}

// wrongAlone are values that may not be, whatever stands about them.
func wrongAlone() []checked {
	one := []api.Value{null()}
	l := []checked{
		{api.Value{}, api.ErrTerseKind}, {api.Value{Kind: 7}, api.ErrTerseKind}, {api.Value{Kind: -1}, api.ErrTerseKind}, {api.Value{Kind: math.MaxInt}, api.ErrTerseKind}, {api.Value{Kind: math.MinInt}, api.ErrTerseKind},
		{api.Value{Kind: 7, Items: []api.Value{nest(null(), 40)}}, api.ErrTerseKind},
		{api.Value{Kind: api.KindInt, Items: one}, api.ErrTerseKind}, {api.Value{Kind: api.KindList, Keys: []string{"a"}, Items: one}, api.ErrTerseKind},
		{api.Value{Kind: api.KindNull, Text: "\xff"}, api.ErrTerseKind}, {api.Value{Kind: api.KindList, Keys: []string{"\xff"}}, api.ErrTerseKind}, {api.Value{Kind: api.KindMap, Flag: true, Keys: []string{"a"}}, api.ErrTerseKind},
		{mapOf("a a \xff", null(), null()), api.ErrTerseText}, {mapOf("a \xff a", null(), null(), null()), api.ErrTerseText},
		{mapOf("a b"), api.ErrTerseKey}, {mapOf("a", null(), null()), api.ErrTerseKey}, {mapOf("", null()), api.ErrTerseKey}, {mapOf("a"), api.ErrTerseKey},
		{mapOf("a a", null(), null()), api.ErrTerseKey}, {mapOf("a b c a", null(), null(), null(), null()), api.ErrTerseKey}, {mapOf("a b a", null(), null()), api.ErrTerseKey},
		{mapOf("a a", api.Value{}, null()), api.ErrTerseKey}, {api.Value{Kind: api.KindMap, Keys: []string{"", ""}, Items: []api.Value{null(), null()}}, api.ErrTerseKey},
	}
	for _, s := range badTexts() {
		l = append(l, checked{text(s), api.ErrTerseText}, checked{mapOf(s, null()), api.ErrTerseText}, checked{mapOf("a "+s, api.Value{}, null()), api.ErrTerseText})
	}
	for kind := api.KindNull; kind <= api.KindMap; kind++ {
		for i, v := range []api.Value{{Flag: true}, {N: 1}, {N: -1}, {Text: "a"}, {Keys: []string{"a"}}, {Items: one}} {
			uses := [][]int{{api.KindBool}, {api.KindInt}, {api.KindInt}, {api.KindText}, {api.KindMap}, {api.KindList, api.KindMap}}[i]
			v.Kind = kind
			if !slices.Contains(uses, kind) {
				l = append(l, checked{v, api.ErrTerseKind})
			}
		}
	}
	return l
}

func wantCheck(t *testing.T, v api.Value, want api.Errno) {
	t.Helper()
	if e := terse.Check(v); e != want {
		t.Errorf("Check(%v) = %d, want %d", v, e, want)
	}
	if s, e := terse.Print(v); e != want || want != api.OK && s != "" {
		t.Errorf("Print(%v) = %q, %d, want %d", v, s, e, want)
	}
}

func TestP2_2Check(t *testing.T) {
	for _, v := range []api.Value{
		null(), yes(false), yes(true), whole(0), whole(math.MinInt64), text(""), text("\x00\"\\"), list(), pairs(), mapOf("a A b", null(), null(), null()),
		{Kind: api.KindMap, Keys: []string{"", " ", "\x00", "é", "e\u0301"}, Items: []api.Value{null(), null(), null(), null(), null()}},
		{Kind: api.KindNull, Keys: []string{}, Items: []api.Value{}}, {Kind: api.KindList, Keys: []string{}, Items: []api.Value{}}, {Kind: api.KindMap, Keys: []string{}, Items: []api.Value{}},
		list(mapOf("a", null()), mapOf("a", null())), mapOf("a", mapOf("a", null())),
	} {
		wantCheck(t, v, api.OK)
	}
	for _, c := range wrongAlone() {
		wantCheck(t, c.v, c.want)
		for _, v := range []api.Value{list(c.v), list(null(), list(), c.v), mapOf("a b", null(), c.v), nest(c.v, 31)} {
			wantCheck(t, v, c.want)
		}
	}
	for _, v := range drawTrees(1, 500) {
		wantCheck(t, v, api.OK)
	}
}

func TestP2_2Depth(t *testing.T) {
	for n := range 40 {
		want := api.OK
		if n > 32 {
			want = api.ErrTerseDeep
		}
		wantCheck(t, nest(null(), n), want)
		if n > 0 {
			wantCheck(t, nest(list(), n-1), want)
			wantCheck(t, nest(pairs(), n-1), want)
			wantCheck(t, list(nest(whole(1), n-1), null()), want)
			wantCheck(t, mapOf("a b", null(), nest(null(), n-1)), want)
		}
	}
	maps := pairs()
	for range 32 {
		maps = mapOf("k", maps)
	}
	wantCheck(t, maps, api.ErrTerseDeep)
	wantCheck(t, maps.Items[0], api.OK)
}

// TestP2_2First: of several errors the first value's, ahead of its items; of one value the first that is listed.
func TestP2_2First(t *testing.T) {
	deep := nest(null(), 32)
	for _, c := range []checked{
		{list(text("\xff"), api.Value{}), api.ErrTerseText}, {list(api.Value{}, text("\xff")), api.ErrTerseKind}, {list(api.Value{}, deep), api.ErrTerseKind}, {list(deep, api.Value{}), api.ErrTerseDeep},
		{list(list(null(), text("\xff")), api.Value{}), api.ErrTerseText}, {list(null(), mapOf("a a", null(), api.Value{}), text("\xff")), api.ErrTerseKey},
		{mapOf("a \xff", api.Value{}, deep), api.ErrTerseText}, {mapOf("a a", api.Value{}, deep), api.ErrTerseKey}, {api.Value{Kind: api.KindList, N: 1, Items: []api.Value{deep}}, api.ErrTerseKind},
		{mapOf("a b", list(text("\xff")), api.Value{}), api.ErrTerseText}, {mapOf("b a", list(text("\xff")), api.Value{}), api.ErrTerseText},
		{nest(api.Value{Kind: api.KindList, Flag: true, Keys: []string{"\xff"}}, 32), api.ErrTerseDeep}, {nest(mapOf("a a \xff"), 32), api.ErrTerseDeep}, {nest(api.Value{Kind: 7}, 32), api.ErrTerseKind}, {nest(text("\xff"), 32), api.ErrTerseText},
	} {
		wantCheck(t, c.v, c.want)
	}
}

func TestP2_3Print(t *testing.T) {
	for _, c := range []struct {
		v    api.Value
		want string
	}{
		{mapOf("b a", whole(1), list(null(), yes(true), whole(-2))), `{"b":1,"a":[null,true,-2]}`}, {text("a\n\"\a"), `"a\n\"\u0007"`},
		{null(), "null"}, {yes(false), "false"}, {yes(true), "true"}, {list(), "[]"}, {pairs(), "{}"}, {list(list(), pairs()), "[[],{}]"}, {text(""), `""`},
		{whole(0), "0"}, {whole(-1), "-1"}, {whole(10), "10"}, {whole(math.MaxInt64), "9223372036854775807"}, {whole(math.MinInt64), "-9223372036854775808"},
		{api.Value{Kind: api.KindMap, Keys: []string{"\"\n", ""}, Items: []api.Value{text("/"), text("\x7f\u2028")}}, "{\"\\\"\\n\":\"/\",\"\":\"\x7f\u2028\"}"},
		{text("\b\f\n\r\t\v\x00\x1f\\"), `"\u0008\u000c\n\r\t\u000b\u0000\u001f\\"`}, {text("<é😀&>�"), `"<é😀&>�"`},
	} {
		if s, e := terse.Print(c.v); s != c.want || e != api.OK {
			t.Errorf("Print(%v) = %q, %d, want %q", c.v, s, e, c.want)
		}
	}
	for _, c := range points() {
		want := string(c)
		switch {
		case c == '"' || c == '\\':
			want = `\` + want
		case c == 9 || c == 10 || c == 13:
			want = map[rune]string{9: `\t`, 10: `\n`, 13: `\r`}[c]
		case c < 32:
			want = `\u00` + strconv.FormatInt(256+int64(c), 16)[1:]
		}
		if s, e := terse.Print(text("a" + string(c) + "é")); s != `"a`+want+`é"` || e != api.OK {
			t.Errorf("Print of %q: %s, %d", c, s, e)
		}
		if s, e := terse.Print(api.Value{Kind: api.KindMap, Keys: []string{string(c)}, Items: []api.Value{null()}}); s != `{"`+want+`":null}` || e != api.OK {
			t.Errorf("Print of the key %q: %s, %d", c, s, e)
		}
	}
	for _, v := range drawTrees(2, 500) {
		s, _ := terse.Print(v)
		if !json.Valid([]byte(s)) || !same(wantedValue(s), v) {
			t.Errorf("Print(%v) = %q", v, s)
		}
	}
}

// wantParse holds Parse against the model, at a depth.
func wantParse(t *testing.T, s string, depth int) {
	t.Helper()
	v, f := terse.Parse(s, depth)
	want, tree := wantedFault(s, depth), api.Value{}
	if want.Code == api.OK {
		tree = wantedValue(s)
	}
	if f != want || !same(v, tree) {
		t.Errorf("Parse(%q, %d) = %v, %v, want %v, %v", s, depth, v, f, tree, want)
	}
}

type faulted struct {
	s     string
	depth int
	want  api.Fault
}

// wantFaults holds Parse, and the model too, against what is written down.
func wantFaults(t *testing.T, code api.Errno, l []faulted) {
	t.Helper()
	for _, c := range l {
		c.want.Code = code
		if v, f := terse.Parse(c.s, c.depth); f != c.want || code != api.OK && !same(v, api.Value{}) {
			t.Errorf("Parse(%q, %d) = %v, %v, want %v", c.s, c.depth, v, f, c.want)
		}
		if f := wantedFault(c.s, c.depth); f != c.want {
			t.Errorf("the model of %q, %d: %v, want %v", c.s, c.depth, f, c.want)
		}
	}
}

func at(n int) api.Fault { return api.Fault{At: n} }

func TestP2_4Depth(t *testing.T) {
	wantFaults(t, api.ErrTerseDepth, []faulted{{"1", -1, at(0)}, {"1", 33, at(0)}, {"", -1, at(0)}, {" \xff", math.MinInt, at(0)}, {" [", math.MaxInt, at(0)}})
	wantFaults(t, api.OK, []faulted{{"1", 0, at(0)}, {"1", 32, at(0)}, {` { "a" : [ ] } `, 2, at(0)}, {"[[],[],{}]", 2, at(0)}})
	wantFaults(t, api.ErrTerseDeep, []faulted{
		{` { "a" : [ ] } `, 1, at(9)}, {` { "a" : [ ] } `, 0, at(1)}, {"[", 0, at(0)}, {"{", 0, at(0)}, {"\t{\xff", 0, at(1)}, {"[[", 1, at(1)}, {"[{", 1, at(1)}, {"[1,[", 1, at(3)}, {`{"a":{`, 1, at(5)}, {`[[],[[]]]`, 2, at(5)},
	})
	for depth := range 33 {
		for _, pair := range []string{"[]", `{}`} {
			open, shut := pair[:1], pair[1:]
			if pair == "{}" {
				open = `{"k":`
			}
			fits := strings.Repeat(open, depth) + "7" + strings.Repeat(shut, depth)
			wantFaults(t, api.OK, []faulted{{fits, depth, at(0)}})
			wantFaults(t, api.ErrTerseDeep, []faulted{{strings.Repeat(open, depth) + pair + strings.Repeat(shut, depth), depth, at(depth * len(open))}})
		}
	}
}

func TestP2_4Number(t *testing.T) {
	wantFaults(t, api.ErrTerseNumber, []faulted{
		{"1.0", 3, at(0)}, {"[1e2]", 3, at(1)}, {"-0", 3, at(0)}, {"9223372036854775808", 3, at(0)}, {"-9223372036854775809", 3, at(0)}, {" [ 1 ,\n-0]", 3, at(7)}, {`{"a":0.0}`, 3, at(5)}, {"-0.0", 0, at(0)}, {"-0e1", 0, at(0)},
		{"0e0", 0, at(0)}, {"0E+1", 0, at(0)}, {"1E-1", 0, at(0)}, {"12.34e056", 0, at(0)}, {"1e999", 0, at(0)}, {"1e-999", 0, at(0)}, {"18446744073709551616", 0, at(0)}, {strings.Repeat("9", 5000), 0, at(0)}, {"-1" + strings.Repeat("0", 5000), 0, at(0)}, {"0." + strings.Repeat("0", 5000), 0, at(0)},
	})
	wantFaults(t, api.ErrTerseText, []faulted{
		{"01", 3, at(0)}, {"+1", 3, at(0)}, {"1.", 3, at(0)}, {".1", 3, at(0)}, {"-", 3, at(0)}, {"--1", 3, at(0)}, {"-01", 3, at(0)}, {"-00", 3, at(0)}, {"00", 3, at(0)}, {"1e", 3, at(0)}, {"1e+", 3, at(0)}, {"1e+-1", 3, at(0)}, {"1.e1", 3, at(0)}, {"1.1.1", 3, at(0)}, {"1e1.1", 3, at(0)}, {"1e1e1", 3, at(0)},
		{"1f", 3, at(0)}, {"0x1", 3, at(0)}, {"1_000", 3, at(0)}, {"1é", 3, at(0)}, {"1\x00", 3, at(0)}, {"١", 3, at(0)}, {"Infinity", 3, at(0)}, {"NaN", 3, at(0)}, {"01.0", 3, at(0)}, {"1.0x", 3, at(0)}, {"[1 .0]", 3, at(3)}, {"{1.0:1}", 3, at(1)}, {"{-0}", 3, at(1)}, {`{"a"1.0}`, 3, at(4)}, {"[1 1.0]", 3, at(3)},
	})
	for _, n := range []int64{0, 1, -1, 7, 10, -10, 1234567890, math.MaxInt64, math.MaxInt64 - 1, math.MinInt64, math.MinInt64 + 1} {
		if v, f := terse.Parse(strconv.FormatInt(n, 10), 0); f != at(0) || !same(v, whole(n)) {
			t.Errorf("Parse of %d = %v, %v", n, v, f)
		}
	}
	const few = "-+01.eE"
	for _, s := range rowsOver(few, 6) {
		wantParse(t, s, 0)
	}
}

// rowsOver tells every text of 1 to n of these bytes.
func rowsOver(few string, n int) []string {
	var l []string
	layer := []string{""}
	for range n {
		var longer []string
		for _, s := range layer {
			for i := range len(few) {
				longer = append(longer, s+few[i:i+1])
			}
		}
		l, layer = append(l, longer...), longer
	}
	return l
}

func TestP2_4Tokens(t *testing.T) {
	wantFaults(t, api.ErrTerseText, []faulted{
		{"", 0, at(0)}, {"", 3, at(0)}, {" \t\r\n", 3, at(4)}, {"[1,]", 3, at(3)}, {`{"a" 1}`, 3, at(5)}, {"nul", 3, at(0)}, {"nulll", 3, at(0)}, {"Null", 3, at(0)}, {"TRUE", 3, at(0)}, {"truefalse", 3, at(0)}, {"[true false]", 3, at(6)},
		{"[", 3, at(1)}, {"[1", 3, at(2)}, {"[1 ", 3, at(3)}, {"[1,", 3, at(3)}, {"[1, ", 3, at(4)}, {"{", 3, at(1)}, {`{"a"`, 3, at(4)}, {`{"a":`, 3, at(5)}, {`{"a":1`, 3, at(6)}, {`{"a":1,`, 3, at(7)},
		{"]", 3, at(0)}, {"}", 3, at(0)}, {",", 3, at(0)}, {":", 3, at(0)}, {"[,]", 3, at(1)}, {"[1}", 3, at(2)}, {"[}", 3, at(1)}, {"{]", 3, at(1)}, {`{"a":1]`, 3, at(6)}, {`{"a":1,}`, 3, at(7)}, {"{,}", 3, at(1)}, {`{"a"}`, 3, at(4)}, {`{"a":}`, 3, at(5)}, {`{"a":,`, 3, at(5)}, {`{"a"::1}`, 3, at(5)}, {"{1:1}", 3, at(1)}, {"{null:1}", 3, at(1)}, {"[1:2]", 3, at(2)}, {"[1 2]", 3, at(3)}, {`[1"a"]`, 3, at(2)}, {"[1,,2]", 3, at(3)}, {`{"a":1 "b":2}`, 3, at(7)},
		{"{[", 1, at(1)}, {"[1[", 1, at(2)}, {`{"a"{`, 1, at(4)}, {"\ufeff1", 3, at(0)}, {"\v1", 3, at(0)}, {"\u00a01", 3, at(0)}, {"\x001", 3, at(0)}, {"[\xff]", 3, at(1)}, {"[1, // none\n2]", 3, at(4)}, {"'a'", 3, at(0)},
	})
	wantFaults(t, api.OK, []faulted{
		{" null ", 0, at(0)}, {"\r\n\t true", 0, at(0)}, {"[]", 1, at(0)}, {" [ ] ", 1, at(0)}, {"{ }", 1, at(0)}, {"[\n1\t,\r\"a\" ]", 1, at(0)}, {`{"":1,"a":2,"A":3,"é":4}`, 1, at(0)}, {`[{"a":1},{"a":1}]`, 2, at(0)}, {`{"a":{"a":{}}}`, 3, at(0)},
	})
	for _, s := range rowsOver(`[]{},:"1 `, 5) {
		wantParse(t, s, 2)
	}
	r := rand.New(rand.NewSource(3))
	parts := []string{"[", "]", "{", "}", ",", ":", `"a":`, `"b":`, `"\u0061":`, `"a"`, "1", "-0", "1.5", "null", "true", " ", "\n", "\"", "\\", "x", "\xff"}
	for range 100000 {
		var b strings.Builder
		for range 1 + r.Intn(12) {
			b.WriteString(parts[r.Intn(len(parts))])
		}
		wantParse(t, b.String(), r.Intn(4))
	}
}

func TestP2_4Text(t *testing.T) {
	for _, c := range []struct{ s, want string }{
		{`"\u00e9\ud83d\ude00"`, "é😀"}, {`"\u00E9\uD83D\uDe00"`, "é😀"}, {`"\"\\\/\b\f\n\r\t"`, "\"\\/\b\f\n\r\t"}, {`"\u0000\u001f\u007f"`, "\x00\x1f\x7f"}, {"\"\x7fé\u2028�\"", "\x7fé\u2028�"}, {`"\ud800\udc00\udbff\udfff"`, "\U00010000\U0010ffff"},
		{`"\ud7ff\ue000\ufffd\uffff"`, "\ud7ff\ue000\ufffd\uffff"}, {`"\\u0041\u00410"`, `\u0041A0`}, {`"/[]{},: "`, "/[]{},: "}, {`""`, ""},
	} {
		if v, f := terse.Parse(c.s, 0); f != at(0) || !same(v, text(c.want)) {
			t.Errorf("Parse(%q) = %v, %v, want %q", c.s, v, f, c.want)
		}
	}
	bad := []string{
		`"`, `"a`, `"\`, `"\"`, `"a\\\"`, `"\u`, `"\u"`, `"\u0`, `"\u00`, `"\u004`, `"\u004"`, `"\u004g"`, `"\u 041"`, `"\U0041"`, `"\u+041"`, `"\u-001"`, `"\u0x4"`, `"\x41"`, `"\a"`, `"\v"`, `"\0"`, `"\'"`, `"\ "`, "\"\\\n\"", `"\N"`, `"\é"`, "\"\\\xff\"",
		`"\ud800"`, `"\udbff"`, `"\udc00"`, `"\udfff"`, `"\ud800x"`, `"\ud800\n"`, `"\ud800\u0041"`, `"\ud800\ud800"`, `"\ud800\ud800\udc00"`, `"\udc00\ud800"`, `"\ud800\udc00\udc00"`, `"\ud800 \udc00"`, `"\ud800\\udc00"`, `"\ud800\ue000"`, `"\ud800\udbff"`, `"\ud800\udc0"`, `"\ud800\uDC0g"`, `"\ud800`, `"\ud800\u`, `"\ud800xudc00"`, `"\ud800\xdc00"`,
	}
	for c := range 32 {
		bad = append(bad, "\"a"+string(rune(c))+"\"")
	}
	for _, s := range badTexts() {
		bad = append(bad, `"`+s+`"`, `"é`+s+`é"`, `"\n`+s)
	}
	for _, s := range bad {
		wantFaults(t, api.ErrTerseText, []faulted{{s, 3, at(0)}, {" [" + s, 3, at(2)}, {"[null," + s, 3, at(6)}, {"{" + s, 3, at(1)}, {`{"":0 ,` + s, 3, at(7)}, {`{"é":` + s, 3, at(6)}, {"[0" + s, 3, at(2)}})
	}
	for n := range 0x10000 {
		digits := strconv.FormatInt(0x10000+int64(n), 16)[1:]
		if v, f := terse.Parse(`"\u`+digits+`"`, 0); n>>11 == 0xd800>>11 && f.Code != api.ErrTerseText || n>>11 != 0xd800>>11 && (f.Code != api.OK || v.Text != string(rune(n))) {
			t.Errorf("\\u%s: %q, %v", digits, v.Text, f)
		}
	}
	r := rand.New(rand.NewSource(4))
	parts := []string{`"`, `\`, `\u`, `\ud83d`, `\ude00`, `\u0061`, `\uDBFF`, `\udFff`, "n", "t", "0061", "dc00", "é", "\xc3", "\xa9", "�", "\n", " ", "/"}
	for range 100000 {
		var b strings.Builder
		b.WriteByte('"')
		for range r.Intn(8) {
			b.WriteString(parts[r.Intn(len(parts))])
		}
		wantParse(t, b.String(), 1)
		wantParse(t, b.String()+`"`, 1)
	}
}

func TestP2_4Key(t *testing.T) {
	wantFaults(t, api.ErrTerseKey, []faulted{
		{`{"a":1,"\u0061":2}`, 3, at(7)}, {`{"":1,"":2}`, 3, at(6)}, {`{"a":1,"b":2, "a"`, 3, at(14)}, {`{"a":1,"a" 2}`, 3, at(7)}, {`[{"b":{"a":1,"b":2,"a":3}}]`, 3, at(19)}, {`{"a":{"a":1},"a":1}`, 3, at(13)}, {`{"\/":1,"/":2}`, 3, at(8)}, {`{"\ud83d\ude00":1,"😀":1}`, 3, at(18)},
	})
	wantFaults(t, api.ErrTerseText, []faulted{{`{"a":1,"a`, 3, at(7)}, {`{"a":1,a:2}`, 3, at(7)}, {`{"a":,"a":1}`, 3, at(5)}})
	var b strings.Builder
	b.WriteString(`{"0":0`)
	for i := range 5000 {
		b.WriteString(`,"` + strconv.Itoa(i+1) + `":` + strconv.Itoa(i+1))
	}
	wantFaults(t, api.OK, []faulted{{b.String() + "}", 1, at(0)}})
	wantFaults(t, api.ErrTerseKey, []faulted{{b.String() + `,"77":`, 1, at(b.Len() + 1)}})
}

func TestP2_4Left(t *testing.T) {
	wantFaults(t, api.ErrTerseLeft, []faulted{
		{"1 2", 3, at(2)}, {"1 1.0", 3, at(2)}, {"null[", 0, at(4)}, {"[]]", 1, at(2)}, {"{}\n}", 1, at(3)}, {"1,", 3, at(1)}, {"1:1", 3, at(1)}, {`1"`, 3, at(1)}, {`"a"b`, 3, at(3)}, {`"a""b"`, 3, at(3)}, {"1 \xff", 3, at(2)}, {"1 \x00", 3, at(2)}, {"[] {", 1, at(3)}, {`0 "\ud800"`, 3, at(2)},
	})
	// Other blanks than JSON's belong to the word that they follow.
	wantFaults(t, api.ErrTerseText, []faulted{{"true\u00a0", 3, at(0)}, {"1\v", 3, at(0)}})
}

func TestP2_5Equal(t *testing.T) {
	unlike := []api.Value{
		null(), yes(false), yes(true), whole(0), whole(1), whole(-1), text(""), text("a"), text("é"), text("e\u0301"), list(), list(null()), list(null(), null()), list(whole(1), whole(2)), list(whole(2), whole(1)), list(list()), pairs(),
		mapOf("a", null()), mapOf("b", null()), mapOf("a", whole(1)), mapOf("a b", null(), null()), mapOf("a b", whole(1), whole(2)), mapOf("a b", whole(2), whole(1)), mapOf("a c", whole(1), whole(2)), mapOf("a", pairs()), list(pairs()), mapOf("a b", list(whole(1)), whole(2)),
	}
	for i, a := range unlike {
		for j, b := range unlike {
			if terse.Equal(a, b) != (i == j) || terse.Equal(list(null(), a), list(null(), b)) != (i == j) || terse.Equal(mapOf("x y", a, null()), mapOf("y x", null(), b)) != (i == j) {
				t.Errorf("Equal(%v, %v) is not %v", a, b, i == j)
			}
		}
	}
	if !terse.Equal(mapOf("a b c", whole(1), list(mapOf("x y", null(), yes(true))), text("z")), mapOf("c b a", text("z"), list(mapOf("y x", yes(true), null())), whole(1))) {
		t.Error("two orders of one map are not equal")
	}
	if !terse.Equal(api.Value{Kind: api.KindMap}, api.Value{Kind: api.KindMap, Keys: []string{}, Items: []api.Value{}}) {
		t.Error("nil and empty lists are not equal")
	}
	if !terse.Equal(nest(null(), 32), nest(null(), 32)) || terse.Equal(nest(null(), 32), nest(whole(0), 32)) {
		t.Error("lists of the greatest depth")
	}
	r := rand.New(rand.NewSource(5))
	for _, v := range drawTrees(6, 500) {
		if !terse.Equal(v, shuffled(r, v)) || !terse.Equal(shuffled(r, v), v) {
			t.Errorf("%v is not equal to itself in another order", v)
		}
		if w := changed(r, v); terse.Equal(v, w) || terse.Equal(w, shuffled(r, v)) {
			t.Errorf("%v is equal to %v", v, w)
		}
	}
}

// shuffled tells v with its maps in other orders.
func shuffled(r *rand.Rand, v api.Value) api.Value {
	out := copyOf(v)
	for i, item := range out.Items {
		out.Items[i] = shuffled(r, item)
	}
	if v.Kind == api.KindMap {
		r.Shuffle(len(out.Keys), func(i, j int) {
			out.Keys[i], out.Keys[j] = out.Keys[j], out.Keys[i]
			out.Items[i], out.Items[j] = out.Items[j], out.Items[i]
		})
	}
	return out
}

// changed tells v with one place of it changed.
func changed(r *rand.Rand, v api.Value) api.Value {
	out := copyOf(v)
	if n := len(out.Items); n > 0 && r.Intn(4) > 0 {
		i := r.Intn(n)
		out.Items[i] = changed(r, out.Items[i])
		return out
	}
	switch v.Kind {
	case api.KindNull:
		return whole(0)
	case api.KindBool:
		out.Flag = !out.Flag
	case api.KindInt:
		out.N ^= 1 << r.Intn(64)
	case api.KindText:
		out.Text += "."
	case api.KindList:
		out.Items = append(out.Items, null())
	case api.KindMap:
		out.Keys, out.Items = append(out.Keys, "another one"), append(out.Items, null())
	}
	return out
}

func TestP2_5Find(t *testing.T) {
	v := api.Value{Kind: api.KindMap, Keys: []string{"b", "", "a", "é"}, Items: []api.Value{list(whole(2)), text("none"), null(), mapOf("b", yes(true))}}
	for i, key := range v.Keys {
		if item, ok := terse.Find(v, key); !ok || !same(item, v.Items[i]) {
			t.Errorf("Find(%q) = %v, %v", key, item, ok)
		}
	}
	for _, key := range []string{"c", "B", "bb", "\xc3", "e\u0301", " b"} {
		if item, ok := terse.Find(v, key); ok || !same(item, api.Value{}) {
			t.Errorf("Find(%q) = %v, %v", key, item, ok)
		}
	}
	for _, v := range []api.Value{null(), yes(true), whole(1), text("a"), list(), list(text("a"), v), pairs(), mapOf("b", mapOf("a", null()))} {
		if item, ok := terse.Find(v, "a"); ok || !same(item, api.Value{}) {
			t.Errorf("Find in %v: %v, %v", v, item, ok)
		}
	}
	for _, v := range drawTrees(7, 500) {
		for i, key := range v.Keys {
			if item, ok := terse.Find(v, key); !ok || !same(item, v.Items[i]) {
				t.Errorf("Find(%v, %q) = %v, %v", v, key, item, ok)
			}
		}
	}
}

// depthOf tells how many lists and maps stand in one another.
func depthOf(v api.Value) int {
	most := 0
	for _, item := range v.Items {
		most = max(most, depthOf(item))
	}
	if v.Kind == api.KindList || v.Kind == api.KindMap {
		most++
	}
	return most
}

func TestP2_6ThereAndBack(t *testing.T) {
	for _, v := range append(drawTrees(8, 3000), nest(null(), 32), nest(pairs(), 31)) {
		s, e := terse.Print(v)
		if e != api.OK {
			t.Fatalf("Print(%v): %d", v, e)
		}
		for _, depth := range []int{depthOf(v), 32} {
			if w, f := terse.Parse(s, depth); f != at(0) || !same(v, w) {
				t.Errorf("Parse(%q, %d) = %v, %v, want %v", s, depth, w, f, v)
			}
		}
		if depth := depthOf(v) - 1; depth >= 0 {
			if _, f := terse.Parse(s, depth); f.Code != api.ErrTerseDeep {
				t.Errorf("Parse(%q, %d): %v", s, depth, f)
			}
		}
	}
}

func TestP2_6OneForm(t *testing.T) {
	l := []string{
		`{"b":1,"a":[null,true,-2]}`, ` 1`, "1\n", "[1, 2]", `{"a" :1}`, `"\/"`, `"/"`, `"\b"`, `"\u0008"`, `"\f"`, `"\u000c"`, `"\u000C"`, `"\n"`, `"\u000a"`, `"\u0009"`, `"\u000d"`, `"\u001f"`, `"\u001F"`, `"\u0020"`, `"\u0061"`, `"\u007f"`, "\"\x7f\"", `"\u00e9"`, `"é"`, `"\ud83d\ude00"`, `"😀"`, `"\""`, `"\u0022"`, `"\\"`, `"\u005c"`, `{"\u0061":1}`, `{"\t":1}`, `"\\u0061"`, `" "`, `{"a":" ,:"}`,
	}
	r := rand.New(rand.NewSource(9))
	for _, v := range drawTrees(10, 3000) {
		s, _ := terse.Print(v)
		l = append(l, s, loosened(r, s))
	}
	for _, s := range l {
		v, f := terse.Parse(s, 32)
		if f != at(0) {
			t.Fatalf("Parse(%q): %v", s, f)
		}
		if p, e := terse.Print(v); e != api.OK || (p == s) != inPrintForm(s) {
			t.Errorf("Print of Parse(%q) = %q, %d, in Print's form: %v", s, p, e, inPrintForm(s))
		}
	}
}

// loosened writes a text that Print has told in another way, here and there.
func loosened(r *rand.Rand, s string) string {
	others := map[string]string{"é": `\u00E9`, "/": `\/`, `\n`: `\u000a`, `\u0008`: `\b`, "😀": `\ud83d\uDE00`, "z": `\u007A`, `\u001f`: `\u001F`, `\\`: `\u005c`}
	var b strings.Builder
	for _, t := range tokensOf(s) {
		b.WriteString([]string{"", "", "", "", "", "", "", "", " ", "\t\n"}[r.Intn(10)])
		for _, p := range pointForm.FindAllString(t.text, -1) {
			other, has := others[p]
			if t.text[0] == '"' && has && r.Intn(10) == 0 {
				p = other
			}
			b.WriteString(p)
		}
	}
	return b.String()
}

// TestP2_7Memory: what is handed in stays as it is, and what is told is the caller's own.
func TestP2_7Memory(t *testing.T) {
	for _, v := range drawTrees(11, 300) {
		in, other := copyOf(v), copyOf(v)
		s, _ := terse.Print(in)
		terse.Check(in)
		terse.Equal(in, other)
		for i, key := range v.Keys {
			item, _ := terse.Find(in, key)
			again, _ := terse.Find(in, key)
			spoil(item)
			if !same(in, v) || !same(again, v.Items[i]) {
				t.Fatalf("what Find(%v, %q) told has memory in common", v, key)
			}
		}
		if !same(in, v) || !same(other, v) || len(in.Items) > 0 && !same(in.Items[:cap(in.Items)][len(in.Items)], api.Value{}) {
			t.Fatalf("%v became %v", v, in)
		}
		item, ok := api.Value{}, false
		if len(v.Keys) > 0 {
			item, ok = terse.Find(in, v.Keys[0])
		}
		spoil(in)
		if ok && !same(item, v.Items[0]) {
			t.Errorf("an item of %v went with its map", v)
		}
		first, _ := terse.Parse(s, 32)
		spoil(first)
		if second, f := terse.Parse(s, 32); f != at(0) || !same(second, v) {
			t.Errorf("Parse(%q) once more: %v, %v", s, second, f)
		}
	}
}

// TestP2_7Lists: no two lists of one answer share memory.
func TestP2_7Lists(t *testing.T) {
	const s = `{"a":{"x":[1,2]},"b":{"x":[1,2]},"c":[[],[3]]}`
	v, _ := terse.Parse(s, 3)
	spoil(v.Items[0])
	if !same(v.Items[1], mapOf("x", list(whole(1), whole(2)))) || !same(v.Items[2], list(list(), list(whole(3)))) {
		t.Errorf("lists of one tree share memory: %v", v)
	}
	v, _ = terse.Parse("["+s+"]", 4)
	shared := mapOf("k", list(v.Items[0], v.Items[0]))
	item, _ := terse.Find(shared, "k")
	spoil(item.Items[0])
	if w, _ := terse.Parse(s, 3); !same(item.Items[1], w) {
		t.Errorf("lists of one item share memory: %v", item)
	}
}

// TestP2_7Ends: every call ends, of what is no tree too.
func TestP2_7Ends(t *testing.T) {
	values := []api.Value{endless(), mapOf("a b", null(), endless()), nest(null(), 1<<16), mapOf("a", nest(null(), 1<<16)), mapOf("a a", whole(1), whole(2)), {Kind: api.KindInt, Keys: []string{"a"}}, {Kind: 99, Keys: []string{"a", "b"}, Items: []api.Value{null()}}, null(), mapOf("a", null())}
	for _, c := range wrongAlone() {
		values = append(values, c.v)
	}
	for _, a := range values {
		e := terse.Check(a)
		if s, f := terse.Print(a); f != e || e != api.OK && s != "" {
			t.Errorf("Print: %q, %d beside Check's %d", s, f, e)
		}
		for _, key := range []string{"a", "b", "", "\xff"} {
			if v, ok := terse.Find(a, key); !ok && !same(v, api.Value{}) {
				t.Errorf("Find: %v beside false", v)
			}
		}
		for _, b := range values {
			terse.Equal(a, b)
		}
	}
	for _, s := range []string{strings.Repeat("[", 1<<16), strings.Repeat(`{"a":`, 1<<16), strings.Repeat("]", 1<<16)} {
		wantParse(t, s[:1000], 32)
		if v, f := terse.Parse(s, 32); f.Code == api.OK || !same(v, api.Value{}) {
			t.Errorf("Parse of %.10s..: %v", s, f)
		}
	}
	r := rand.New(rand.NewSource(12))
	for range 50000 {
		b := make([]byte, r.Intn(20))
		r.Read(b)
		wantParse(t, string(b), r.Intn(40)-3)
		v, _ := terse.Print(drawTree(r, 3))
		b = []byte(v)
		b[r.Intn(len(b))] = byte(r.Intn(256))
		wantParse(t, string(b), 32)
	}
}

// TestP2_7Numbers: a number's worth takes no memory.
func TestP2_7Numbers(t *testing.T) {
	taken := func(s string) uint64 {
		var ahead, behind runtime.MemStats
		runtime.ReadMemStats(&ahead)
		terse.Parse(s, 32)
		runtime.ReadMemStats(&behind)
		return behind.TotalAlloc - ahead.TotalAlloc
	}
	for _, s := range []string{"9223372036854775807", "-9223372036854775808", "[999999999999]", "1e999999999", "9999999999999999999999999", `{"a":9000000000000000000}`} {
		if n := taken(s); n > 1<<16 {
			t.Errorf("Parse(%q) takes %d bytes", s, n)
		}
	}
}
