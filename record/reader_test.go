package record_test

import (
	"bytes"
	"math"
	"math/rand"
	"strings"
	"testing"

	"postern/api"
	"postern/record"
)

func wantLeft(t *testing.T, what string, r *record.Reader, left int, end api.Errno) {
	t.Helper()
	if n, e := r.Left(), r.End(); n != left || e != end {
		t.Errorf("%s: Left %d, End %d, want %d, %d", what, n, e, left, end)
	}
}

func TestP3_3Fields(t *testing.T) {
	b := unhex("0102 8000000000000000 ffffffffffffffff 00 01 0000000261ff 00000000 0000000162 00000000 010200000000000000000000000000ff ffffffffffffffff 07")
	r := record.From(b)
	if n := r.Num(2); n != 258 {
		t.Errorf("Num(2) = %d", n)
	}
	if n := r.Int(); n != math.MinInt64 {
		t.Errorf("Int = %d", n)
	}
	if n := r.Int(); n != -1 {
		t.Errorf("Int = %d", n)
	}
	if f, g := r.Flag(), r.Flag(); f || !g {
		t.Errorf("Flags = %v, %v", f, g)
	}
	if s := r.Bytes(); string(s) != "a\xff" {
		t.Errorf("Bytes = %q", s)
	}
	if s := r.Bytes(); len(s) != 0 {
		t.Errorf("no Bytes = %q", s)
	}
	if s := r.Text(); s != "b" {
		t.Errorf("Text = %q", s)
	}
	if s := r.Text(); s != "" {
		t.Errorf("no Text = %q", s)
	}
	if d := r.ID(); d != (api.ID{1, 2, 15: 255}) {
		t.Errorf("ID = %x", d)
	}
	if n := r.Num(8); n != math.MaxUint64 {
		t.Errorf("Num(8) = %d", n)
	}
	if n := r.Num(1); n != 7 {
		t.Errorf("Num(1) = %d", n)
	}
	wantLeft(t, "behind all", r, 0, api.OK)
}

func TestP3_3Refused(t *testing.T) {
	for _, c := range []struct {
		b           string
		kind, width int
		want        api.Errno
	}{
		{"", num, 0, api.ErrRecordForm}, {"", num, 9, api.ErrRecordForm}, {"", num, -1, api.ErrRecordForm},
		{"", num, 1, api.ErrRecordShort}, {"01", num, 2, api.ErrRecordShort}, {"01 02 03 04 05 06 07", num, 8, api.ErrRecordShort}, {"01 02", num, 3, api.ErrRecordShort},
		{"", whole, 0, api.ErrRecordShort}, {"01 02 03 04 05 06 07", whole, 0, api.ErrRecordShort},
		{"", flag, 0, api.ErrRecordShort}, {"02", flag, 0, api.ErrRecordForm}, {"ff", flag, 0, api.ErrRecordForm}, {"80 01", flag, 0, api.ErrRecordForm}, {"02 00", flag, 0, api.ErrRecordForm},
		{"", draw, 0, api.ErrRecordShort}, {"01 02 03 04 05 06 07 08 09 0a 0b 0c 0d 0e 0f", draw, 0, api.ErrRecordShort},
		{"", row, 0, api.ErrRecordShort}, {"00", row, 0, api.ErrRecordShort}, {"00 00 00", row, 0, api.ErrRecordShort}, {"ff ff ff", row, 0, api.ErrRecordShort},
		{"00 00 00 01", row, 0, api.ErrRecordShort}, {"00 00 00 02 61", row, 0, api.ErrRecordShort}, {"00 10 00 00", row, 0, api.ErrRecordShort}, {"00 10 00 00 61 62", row, 0, api.ErrRecordShort},
		{"00 10 00 01", row, 0, api.ErrRecordLong}, {"00 10 00 01 61", row, 0, api.ErrRecordLong}, {"ff ff ff ff", row, 0, api.ErrRecordLong}, {"80 00 00 00", row, 0, api.ErrRecordLong}, {"01 00 00 00", row, 0, api.ErrRecordLong},
	} {
		wantRefused(t, c.b, c.kind, c.width, c.want)
		if c.kind == row {
			wantRefused(t, c.b, text, 0, c.want)
		}
	}
	for _, width := range widthsThatAreNone {
		wantRefused(t, "", num, width, api.ErrRecordForm)
		wantRefused(t, strings.Repeat("00", 600), num, width, api.ErrRecordForm)
	}
	for c := 2; c < 256; c++ {
		r := record.From([]byte{byte(c)})
		if r.Flag() || r.End() != api.ErrRecordForm {
			t.Errorf("Flag of %02x: %d", c, r.End())
		}
	}
}

// wantRefused: the call is refused, takes nothing, tells the zero value; so is each call behind it, and the error stays.
func wantRefused(t *testing.T, hex string, kind, width int, want api.Errno) {
	t.Helper()
	b := unhex(hex)
	r := record.From(b)
	if got := take(r, kind, width); got != nothing(kind, width) {
		t.Errorf("%d (%d) of %q = %#v", kind, width, hex, got)
	}
	wantLeft(t, "refused of "+hex, r, len(b), want)
	for next := range kinds {
		for _, width := range []int{0, 1, 8, 9} {
			if got := take(r, next, width); got != nothing(next, width) {
				t.Errorf("%d (%d) of %q, behind a refusal = %#v", next, width, hex, got)
			}
			wantLeft(t, "behind a refusal of "+hex, r, len(b), want)
		}
	}
}

// TestP3_3Behind: a refusal behind fields that were taken leaves what is left there.
func TestP3_3Behind(t *testing.T) {
	r := record.From(unhex("01 02 01 00 00 00 05 61 62 01"))
	if n, f, s := r.Num(2), r.Flag(), r.Text(); n != 258 || !f || s != "" {
		t.Errorf("%d, %v, %q", n, f, s)
	}
	wantLeft(t, "a short text", r, 7, api.ErrRecordShort)
	if n, f, d := r.Num(1), r.Flag(), r.ID(); n != 0 || f || d != (api.ID{}) {
		t.Errorf("behind a refusal: %d, %v, %x", n, f, d)
	}
	if n := r.Num(9); n != 0 {
		t.Errorf("Num(9) = %d", n)
	}
	wantLeft(t, "behind it", r, 7, api.ErrRecordShort)
}

// TestP3_3Rows: the longest row is taken, one byte more is refused.
func TestP3_3Rows(t *testing.T) {
	long := strings.Repeat("r", api.MaxRow)
	for _, kind := range []int{row, text} {
		r := record.From([]byte("\x00\x10\x00\x00" + long + "z"))
		if got := take(r, kind, 0); got.s != long {
			t.Errorf("the longest row: %d bytes", len(got.s))
		}
		wantLeft(t, "behind the longest row", r, 1, api.ErrRecordLeft)
		r = record.From([]byte("\x00\x10\x00\x00" + long[1:]))
		if got := take(r, kind, 0); got.s != "" {
			t.Errorf("a byte too few: %d bytes", len(got.s))
		}
		wantLeft(t, "a byte too few", r, api.MaxRow+3, api.ErrRecordShort)
		r = record.From([]byte("\x00\x10\x00\x01" + long + "z"))
		if got := take(r, kind, 0); got.s != "" {
			t.Errorf("a row too long: %d bytes", len(got.s))
		}
		wantLeft(t, "a row too long", r, api.MaxRow+5, api.ErrRecordLong)
	}
}

// TestP3_3Model holds calls upon whatever bytes against the model; P3.4's answers, too.
func TestP3_3Model(t *testing.T) {
	rnd := rand.New(rand.NewSource(5))
	seen := map[api.Errno]int{}
	for range 30000 {
		s := string(someBytes(rnd, rnd.Intn(60)))
		r, refused := record.From([]byte(s)), api.OK
		for range 8 {
			kind, width := rnd.Intn(kinds), 1+rnd.Intn(8)
			if rnd.Intn(20) == 0 {
				width = widthsThatAreNone[rnd.Intn(len(widthsThatAreNone))]
			}
			want, size, e := wantedTaken(s, kind, width)
			if refused != api.OK {
				want, size, e = nothing(kind, width), 0, refused
			}
			if got := take(r, kind, width); got != want {
				t.Fatalf("%d (%d) of %x = %#v, want %#v", kind, width, s, got, want)
			}
			s, refused = s[size:], e
			end := refused
			if end == api.OK && s != "" {
				end = api.ErrRecordLeft
			}
			seen[end]++
			wantLeft(t, "some bytes", r, len(s), end)
		}
	}
	for _, e := range []api.Errno{api.OK, api.ErrRecordShort, api.ErrRecordLong, api.ErrRecordLeft, api.ErrRecordForm} {
		if seen[e] < 100 {
			t.Errorf("End told %d only %d times", e, seen[e])
		}
	}
}

func TestP3_4LeftAndEnd(t *testing.T) {
	wantLeft(t, "none", record.From(nil), 0, api.OK)
	wantLeft(t, "none", record.From([]byte{}), 0, api.OK)
	r := record.From(unhex("01 00 00 00 00"))
	wantLeft(t, "at first", r, 5, api.ErrRecordLeft)
	wantLeft(t, "asked again", r, 5, api.ErrRecordLeft)
	if !r.Flag() {
		t.Error("End was taken for a refusal")
	}
	wantLeft(t, "behind a Flag", r, 4, api.ErrRecordLeft)
	if s := r.Text(); s != "" {
		t.Errorf("Text = %q", s)
	}
	wantLeft(t, "behind all", r, 0, api.OK)
	if n := r.Num(1); n != 0 {
		t.Errorf("Num = %d", n)
	}
	wantLeft(t, "too much asked for", r, 0, api.ErrRecordShort)
	r = record.From(unhex("02"))
	r.Flag()
	wantLeft(t, "a refusal's error goes ahead of what is left", r, 1, api.ErrRecordForm)
}

// TestP3_8Fields: what a Writer has laid a Reader takes by the same calls in order.
func TestP3_8Fields(t *testing.T) {
	rnd := rand.New(rand.NewSource(6))
	for range 3000 {
		l := make([]field, rnd.Intn(20))
		w := &record.Writer{}
		for i := range l {
			l[i] = someField(rnd)
			lay(w, l[i])
		}
		b, e := w.Done()
		if e != api.OK {
			t.Fatalf("Done of %#v: %d", l, e)
		}
		r := record.From(b)
		for _, f := range l {
			if got := take(r, f.kind, f.width); got != f {
				t.Fatalf("%#v is taken as %#v", f, got)
			}
		}
		wantLeft(t, "there and back", r, 0, api.OK)
	}
}

// TestP3_9ReaderMemory: what is read may be written over, what is told is the caller's own.
func TestP3_9ReaderMemory(t *testing.T) {
	room := append(unhex("00000003616263 00000002 6465 010200000000000000000000000000ff 07"), "room"...)
	kept := bytes.Clone(room)
	r := record.From(room[:30])
	again := record.From(room[:30])
	first := r.Bytes()
	if !bytes.Equal(room, kept) {
		t.Fatalf("%x became %x", kept, room)
	}
	clear(room)
	if string(first) != "abc" {
		t.Errorf("Bytes = %q", first)
	}
	_ = append(first, "and more than that, and more"...)
	clear(first[:cap(first)])
	second := r.Text()
	if d, n := r.ID(), r.Num(1); second != "de" || d != (api.ID{1, 2, 15: 255}) || n != 7 {
		t.Errorf("behind a change of an answer: %q, %x, %d", second, d, n)
	}
	wantLeft(t, "behind all", r, 0, api.OK)
	wantLeft(t, "another one of these bytes", again, 30, api.ErrRecordLeft)
	copied, later := *again, *again
	first = again.Bytes()
	clear(first[:cap(first)])
	again.Num(9)
	wantLeft(t, "one that is refused", again, 23, api.ErrRecordForm)
	if s := copied.Bytes(); string(s) != "abc" {
		t.Errorf("a copy reads %q", s)
	}
	wantLeft(t, "a copy", &copied, 23, api.ErrRecordLeft)
	wantLeft(t, "a copy that has not read", &later, 30, api.ErrRecordLeft)
}
