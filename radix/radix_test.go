package radix_test

import (
	"bytes"
	"encoding/base64"
	"encoding/binary"
	"encoding/hex"
	"math"
	"math/big"
	"math/rand"
	"regexp"
	"strconv"
	"strings"
	"testing"

	"postern/api"
	"postern/radix"
)

type reader func(string) ([]byte, api.Errno)

type refusal struct {
	text string
	want api.Errno
}

func checkRefusals(t *testing.T, name string, read reader, l []refusal) {
	t.Helper()
	for _, c := range l {
		if b, e := read(c.text); e != c.want || len(b) != 0 {
			t.Errorf("%s(%q) = %x, %d, want no bytes, %d", name, c.text, b, e, c.want)
		}
	}
}

// rows tells rows of bytes: none, every single byte, and some of each length up to 70.
func rows() [][]byte {
	l := [][]byte{nil, {}}
	for c := range 256 {
		l = append(l, []byte{byte(c)})
	}
	r := rand.New(rand.NewSource(1))
	for n := range 71 {
		low, high := make([]byte, n), bytes.Repeat([]byte{255}, n)
		l = append(l, low, high)
		for range 8 {
			b := make([]byte, n)
			r.Read(b)
			l = append(l, b)
		}
	}
	return l
}

// texts tells every text of up to two bytes, and every one of up to five over a few bytes that matter.
func texts() []string {
	l := []string{""}
	for a := range 256 {
		l = append(l, string([]byte{byte(a)}))
		for b := range 256 {
			l = append(l, string([]byte{byte(a), byte(b)}))
		}
	}
	const few = "AQgx/+-_= "
	layer := []string{""}
	for range 5 {
		var longer []string
		for _, s := range layer {
			for i := range len(few) {
				longer = append(longer, s+few[i:i+1])
			}
		}
		l, layer = append(l, longer...), longer
	}
	return l
}

func TestP1_1Text64(t *testing.T) {
	for _, c := range []struct{ b, want string }{
		{"", ""}, {"f", "Zg"}, {"fo", "Zm8"}, {"foo", "Zm9v"}, {"\xfb\xff\xfe", "-__-"}, {"\xff", "_w"}, {"\xff\xff", "__8"}, {"\x00", "AA"}, {"\x00\x00", "AAA"},
	} {
		if s := radix.Text64([]byte(c.b)); s != c.want {
			t.Errorf("Text64(%x) = %q, want %q", c.b, s, c.want)
		}
	}
	for i, c := range "ABCDEFGHIJKLMNOPQRSTUVWXYZabcdefghijklmnopqrstuvwxyz0123456789-_" {
		want := "AAA" + string(c)
		if s := radix.Text64([]byte{0, 0, byte(i)}); s != want {
			t.Errorf("Text64(00 00 %02x) = %q, want %q", i, s, want)
		}
	}
	for _, b := range rows() {
		if s, want := radix.Text64(b), base64.RawURLEncoding.EncodeToString(b); s != want {
			t.Errorf("Text64(%x) = %q, want %q", b, s, want)
		}
	}
}

// wanted64 says by P1.2's words what a reader of base64url has to answer.
func wanted64(s string) api.Errno {
	if !regexp.MustCompile(`^[A-Za-z0-9_-]*\z`).MatchString(s) {
		return api.ErrRadixChar
	}
	if len(s)%4 == 1 {
		return api.ErrRadixLen
	}
	if _, err := base64.RawURLEncoding.Strict().DecodeString(s); err != nil {
		return api.ErrRadixBits
	}
	return api.OK
}

func TestP1_2Bytes64(t *testing.T) {
	checkRefusals(t, "Bytes64", radix.Bytes64, []refusal{
		{"Zg==", api.ErrRadixChar}, {"Z g", api.ErrRadixChar}, {"Zm9+", api.ErrRadixChar}, {"Zm9/", api.ErrRadixChar}, {"Z!", api.ErrRadixChar}, {"!", api.ErrRadixChar},
		{"Zm9vZ\n", api.ErrRadixChar}, {"\nZm9v", api.ErrRadixChar}, {"Zm9v\r\n", api.ErrRadixChar}, {"é", api.ErrRadixChar}, {"\xff\xff", api.ErrRadixChar}, {"Z=", api.ErrRadixChar},
		{"Z", api.ErrRadixLen}, {"Zm9vZ", api.ErrRadixLen}, {"Zm9vZm9v_", api.ErrRadixLen},
		{"Zh", api.ErrRadixBits}, {"Zm9", api.ErrRadixBits}, {"AB", api.ErrRadixBits}, {"AI", api.ErrRadixBits}, {"AAB", api.ErrRadixBits}, {"AAC", api.ErrRadixBits}, {"Zm9vZh", api.ErrRadixBits},
	})
	for _, s := range texts() {
		b, e := radix.Bytes64(s)
		want, _ := base64.RawURLEncoding.Strict().DecodeString(s)
		if f := wanted64(s); f != api.OK {
			want = nil
			if e != f {
				t.Errorf("Bytes64(%q): %d, want %d", s, e, f)
			}
		} else if e != api.OK {
			t.Errorf("Bytes64(%q): %d, want OK", s, e)
		}
		if !bytes.Equal(b, want) {
			t.Errorf("Bytes64(%q) = %x, want %x", s, b, want)
		}
	}
}

// wantedPad says by P1.3's words what a reader of padded base 64 has to answer.
func wantedPad(s string) api.Errno {
	ahead := strings.TrimSuffix(strings.TrimSuffix(s, "="), "=")
	if !regexp.MustCompile(`^[A-Za-z0-9+/]*\z`).MatchString(ahead) {
		return api.ErrRadixChar
	}
	if len(s)%4 != 0 {
		return api.ErrRadixLen
	}
	if _, err := base64.StdEncoding.Strict().DecodeString(s); err != nil {
		return api.ErrRadixBits
	}
	return api.OK
}

func TestP1_3TextPad(t *testing.T) {
	for _, c := range []struct{ b, want string }{
		{"", ""}, {"f", "Zg=="}, {"fo", "Zm8="}, {"foo", "Zm9v"}, {"\xfb\xff\xfe", "+//+"}, {"foof", "Zm9vZg=="},
	} {
		if s := radix.TextPad([]byte(c.b)); s != c.want {
			t.Errorf("TextPad(%x) = %q, want %q", c.b, s, c.want)
		}
	}
	for _, b := range rows() {
		if s, want := radix.TextPad(b), base64.StdEncoding.EncodeToString(b); s != want {
			t.Errorf("TextPad(%x) = %q, want %q", b, s, want)
		}
	}
}

func TestP1_3BytesPad(t *testing.T) {
	checkRefusals(t, "BytesPad", radix.BytesPad, []refusal{
		{"Z===", api.ErrRadixChar}, {"====", api.ErrRadixChar}, {"===", api.ErrRadixChar}, {"Zg==Zg==", api.ErrRadixChar}, {"Zm9-", api.ErrRadixChar}, {"Zm9_", api.ErrRadixChar}, {"Z=g=", api.ErrRadixChar}, {"Zm9vZg==\n", api.ErrRadixChar}, {"Z!", api.ErrRadixChar}, {"é===", api.ErrRadixChar},
		{"=", api.ErrRadixLen}, {"==", api.ErrRadixLen}, {"Zg", api.ErrRadixLen}, {"Zg=", api.ErrRadixLen}, {"Zm9v=", api.ErrRadixLen}, {"Zm9v==", api.ErrRadixLen}, {"Zh", api.ErrRadixLen}, {"Z==", api.ErrRadixLen}, {"Zm8", api.ErrRadixLen}, {"Zm8==", api.ErrRadixLen},
		{"Zh==", api.ErrRadixBits}, {"Zm9=", api.ErrRadixBits}, {"AI==", api.ErrRadixBits}, {"AAC=", api.ErrRadixBits}, {"Zm9vZh==", api.ErrRadixBits},
	})
	for _, s := range texts() {
		b, e := radix.BytesPad(s)
		want, _ := base64.StdEncoding.Strict().DecodeString(s)
		f := wantedPad(s)
		if f != api.OK {
			want = nil
		}
		if e != f || !bytes.Equal(b, want) {
			t.Errorf("BytesPad(%q) = %x, %d, want %x, %d", s, b, e, want, f)
		}
	}
}

func TestP1_4Base16(t *testing.T) {
	for _, c := range []struct{ b, want string }{{"", ""}, {"f", "66"}, {"foo", "666f6f"}, {"\xfb\xff\xfe", "fbfffe"}, {"\x00\x0a\xa0", "000aa0"}} {
		if s := radix.Text16([]byte(c.b)); s != c.want {
			t.Errorf("Text16(%x) = %q, want %q", c.b, s, c.want)
		}
	}
	for _, b := range rows() {
		if s, want := radix.Text16(b), hex.EncodeToString(b); s != want {
			t.Errorf("Text16(%x) = %q, want %q", b, s, want)
		}
	}
	checkRefusals(t, "Bytes16", radix.Bytes16, []refusal{
		{"6F", api.ErrRadixChar}, {"A", api.ErrRadixChar}, {"6g", api.ErrRadixChar}, {"66 ", api.ErrRadixChar}, {"6`", api.ErrRadixChar}, {"/0", api.ErrRadixChar}, {":0", api.ErrRadixChar}, {"é", api.ErrRadixChar}, {"0x66", api.ErrRadixChar},
		{"666", api.ErrRadixLen}, {"6", api.ErrRadixLen},
	})
	for _, s := range texts() {
		b, e := radix.Bytes16(s)
		want, f := []byte(nil), api.OK
		switch {
		case strings.Trim(s, "0123456789abcdef") != "" || strings.ContainsAny(s, "gxAQ/+-_= "):
			f = api.ErrRadixChar
		case len(s)%2 == 1:
			f = api.ErrRadixLen
		default:
			want, _ = hex.DecodeString(s)
		}
		if e != f || !bytes.Equal(b, want) {
			t.Errorf("Bytes16(%q) = %x, %d, want %x, %d", s, b, e, want, f)
		}
	}
}

// numbers tells those about which a decimal or a byte more is needed, and some others.
func numbers() []int64 {
	l := []int64{math.MinInt64, math.MinInt64 + 1, math.MaxInt64, math.MaxInt64 - 1}
	for i := range 63 {
		l = append(l, 1<<i-1, 1<<i, 1<<i+1, -1<<i-1, -1<<i, -1<<i+1)
	}
	for n := int64(1); n <= math.MaxInt64/10; n *= 10 {
		l = append(l, n-1, n, n+1, 1-n, -n, -n-1)
	}
	r := rand.New(rand.NewSource(2))
	for range 500 {
		l = append(l, int64(r.Uint64())>>r.Intn(64))
	}
	return l
}

func TestP1_5Text10(t *testing.T) {
	for _, n := range numbers() {
		s := radix.Text10(n)
		if want := strconv.FormatInt(n, 10); s != want {
			t.Errorf("Text10(%d) = %q", n, s)
		}
		if m, e := radix.Number10(s); m != n || e != api.OK {
			t.Errorf("Number10(%q) = %d, %d", s, m, e)
		}
	}
}

func TestP1_5Number10(t *testing.T) {
	for _, s := range []string{
		"", "-", "--1", "+", "+1", "-0", "-00", "00", "01", "007", "-01", " 1", "1 ", "1e3", "1_0", "0x1", "1.0", "1-", "a", "é", "\x00", "1\x00", "٣", "/", ":", "-/1",
		"9223372036854775808x", "-9223372036854775809 ", strings.Repeat("9", 1000) + ".", "0" + strings.Repeat("9", 30), "-0" + strings.Repeat("9", 30),
	} {
		if n, e := radix.Number10(s); n != 0 || e != api.ErrRadixText {
			t.Errorf("Number10(%q) = %d, %d, want 0, ErrRadixText", s, n, e)
		}
	}
	for _, s := range []string{
		"9223372036854775808", "9223372036854775809", "9223372036854775810", "-9223372036854775809", "-9223372036854775810", "18446744073709551615", "18446744073709551616", "-18446744073709551616",
		"10000000000000000000", "100000000000000000000", strings.Repeat("9", 1000), "-1" + strings.Repeat("0", 1000),
	} {
		if n, e := radix.Number10(s); n != 0 || e != api.ErrRadixRange {
			t.Errorf("Number10(%q) = %d, %d, want 0, ErrRadixRange", s, n, e)
		}
	}
	decimal := regexp.MustCompile(`^(0|-?[1-9][0-9]*)\z`)
	for _, s := range texts() {
		n, e := radix.Number10(s)
		want, _ := strconv.ParseInt(s, 10, 64)
		if f := decimal.MatchString(s); f && (n != want || e != api.OK) || !f && (n != 0 || e != api.ErrRadixText) {
			t.Errorf("Number10(%q) = %d, %d", s, n, e)
		}
	}
}

// TestP1_5Edges holds decimals about both ends of 64 bits against numbers of any size.
func TestP1_5Edges(t *testing.T) {
	for _, end := range []int64{math.MinInt64, math.MaxInt64} {
		for i := int64(-1000); i <= 1000; i++ {
			x := new(big.Int).Add(big.NewInt(end), big.NewInt(i))
			n, e := radix.Number10(x.String())
			if x.IsInt64() && (n != x.Int64() || e != api.OK) || !x.IsInt64() && (n != 0 || e != api.ErrRadixRange) {
				t.Errorf("Number10(%q) = %d, %d", x, n, e)
			}
		}
	}
}

func TestP1_6Lay(t *testing.T) {
	for _, width := range []int{0, 9, 10, -1, -8, 64, math.MinInt, math.MaxInt, 1 << 32, 1<<32 + 1} {
		for _, n := range []uint64{0, 1, math.MaxUint64} {
			if b, e := radix.Lay(n, width); len(b) != 0 || e != api.ErrRadixLen {
				t.Errorf("Lay(%d, %d) = %x, %d, want none, ErrRadixLen", n, width, b, e)
			}
		}
	}
	for _, m := range numbers() {
		n := uint64(m)
		var eight [8]byte
		binary.BigEndian.PutUint64(eight[:], n)
		for width := 1; width <= 8; width++ {
			b, e := radix.Lay(n, width)
			if len(bytes.TrimLeft(eight[:], "\x00")) > width {
				if len(b) != 0 || e != api.ErrRadixRange {
					t.Errorf("Lay(%d, %d) = %x, %d, want none, ErrRadixRange", n, width, b, e)
				}
			} else if !bytes.Equal(b, eight[8-width:]) || e != api.OK {
				t.Errorf("Lay(%d, %d) = %x, %d, want %x", n, width, b, e, eight[8-width:])
			}
		}
	}
}

func TestP1_6Read(t *testing.T) {
	for _, b := range rows() {
		n, e := radix.Read(b)
		if len(b) < 1 || len(b) > 8 {
			if n != 0 || e != api.ErrRadixLen {
				t.Errorf("Read(%x) = %d, %d, want 0, ErrRadixLen", b, n, e)
			}
			continue
		}
		var eight [8]byte
		copy(eight[8-len(b):], b)
		if want := binary.BigEndian.Uint64(eight[:]); n != want || e != api.OK {
			t.Errorf("Read(%x) = %d, %d, want %d", b, n, e, want)
		}
		if c, e := radix.Lay(n, len(b)); !bytes.Equal(b, c) || e != api.OK {
			t.Errorf("Lay(%d, %d) = %x, %d, want %x", n, len(b), c, e, b)
		}
	}
}

// TestP1_7ThereAndBack: a reader tells what a text was told of, and takes nothing but such a text.
func TestP1_7ThereAndBack(t *testing.T) {
	for _, c := range []struct {
		name string
		tell func([]byte) string
		read reader
	}{{"64", radix.Text64, radix.Bytes64}, {"Pad", radix.TextPad, radix.BytesPad}, {"16", radix.Text16, radix.Bytes16}} {
		for _, b := range rows() {
			if x, e := c.read(c.tell(b)); !bytes.Equal(x, b) || e != api.OK {
				t.Errorf("Bytes%s(%q) = %x, %d, want %x", c.name, c.tell(b), x, e, b)
			}
		}
		for _, s := range texts() {
			if b, e := c.read(s); e == api.OK && c.tell(b) != s {
				t.Errorf("Bytes%s takes %q, whose bytes are %q", c.name, s, c.tell(b))
			}
		}
	}
}

func TestP1_7Shapes(t *testing.T) {
	letters := strings.NewReplacer("+", "-", "/", "_", "=", "")
	l := rows()
	for i, b := range l {
		s := radix.Text64(b)
		if len(s) != (4*len(b)+2)/3 {
			t.Errorf("Text64(%x) has %d letters", b, len(s))
		}
		if p := radix.TextPad(b); letters.Replace(p) != s || len(p)%4 != 0 {
			t.Errorf("TextPad(%x) = %q, Text64 is %q", b, p, s)
		}
		for _, c := range l[max(0, i-20):i] {
			both := append(bytes.Clone(b), c...)
			if radix.Text16(both) != radix.Text16(b)+radix.Text16(c) {
				t.Errorf("Text16(%x, %x) = %q", b, c, radix.Text16(both))
			}
			if len(b)%3 == 0 && radix.Text64(both) != s+radix.Text64(c) {
				t.Errorf("Text64(%x, %x) = %q", b, c, radix.Text64(both))
			}
			for _, d := range [][]byte{both, c} {
				if strings.HasPrefix(radix.Text16(d), radix.Text16(b)) != bytes.HasPrefix(d, b) {
					t.Errorf("beginnings: %x, %x", b, d)
				}
			}
		}
	}
}

func TestP1_7Order(t *testing.T) {
	l := numbers()
	for i, m := range l {
		for _, n := range l[max(0, i-50):i] {
			a, _ := radix.Lay(uint64(m), 8)
			b, _ := radix.Lay(uint64(n), 8)
			want := 0
			if uint64(m) < uint64(n) {
				want = -1
			} else if uint64(m) > uint64(n) {
				want = 1
			}
			if bytes.Compare(a, b) != want {
				t.Errorf("Lay of %d and %d: %x and %x", uint64(m), uint64(n), a, b)
			}
		}
	}
}

// TestP1_8Memory: nothing that is handed in is changed, with room behind it or not, and what is told is the caller's own.
func TestP1_8Memory(t *testing.T) {
	for _, b := range rows() {
		room := append(bytes.Clone(b), "room behind it"...)
		kept := bytes.Clone(room)
		in := room[:len(b)]
		s, p, h := radix.Text64(in), radix.TextPad(in), radix.Text16(in)
		radix.Read(in)
		if !bytes.Equal(room, kept) {
			t.Fatalf("%x became %x", kept, room)
		}
		clear(room)
		if s != radix.Text64(b) || p != radix.TextPad(b) || h != radix.Text16(b) {
			t.Errorf("a text of %x went with its bytes", b)
		}
		for _, c := range []struct {
			read reader
			text string
		}{{radix.Bytes64, s}, {radix.BytesPad, p}, {radix.Bytes16, h}} {
			x, _ := c.read(c.text)
			clear(x[:cap(x)])
			if y, e := c.read(c.text); !bytes.Equal(y, b) || e != api.OK {
				t.Errorf("bytes of %q once more: %x, %d", c.text, y, e)
			}
		}
	}
	a, _ := radix.Lay(258, 2)
	clear(a[:cap(a)])
	if b, _ := radix.Lay(258, 2); !bytes.Equal(b, []byte{1, 2}) {
		t.Errorf("Lay(258, 2) once more: %x", b)
	}
}

// TestP1_8Ends: every call ends, beside an error with nothing else.
func TestP1_8Ends(t *testing.T) {
	r := rand.New(rand.NewSource(3))
	for range 20000 {
		b := make([]byte, r.Intn(40))
		r.Read(b)
		s := string(b)
		for _, read := range []reader{radix.Bytes64, radix.BytesPad, radix.Bytes16} {
			if x, e := read(s); e != api.OK && len(x) != 0 {
				t.Errorf("%q: %x beside %d", s, x, e)
			}
		}
		if n, e := radix.Number10(s); e != api.OK && n != 0 {
			t.Errorf("Number10(%q) = %d beside %d", s, n, e)
		}
	}
	long := strings.Repeat("7", 1<<20)
	radix.Number10(long)
	if b, e := radix.Bytes64(long); e != api.OK || radix.Text64(b) != long {
		t.Errorf("a long text of base64url: %d", e)
	}
	if b, e := radix.Bytes16(long); e != api.OK || radix.Text16(b) != long {
		t.Errorf("a long text of base 16: %d", e)
	}
}
