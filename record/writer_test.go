package record_test

import (
	"bytes"
	"math"
	"math/rand"
	"strings"
	"testing"

	"postern/api"
	"postern/record"
)

// widthsThatAreNone are no widths of a Num.
var widthsThatAreNone = []int{0, 9, 10, -1, -8, 64, 256, 257, 1 << 32, 1<<32 + 1, math.MinInt, math.MaxInt}

func wantDone(t *testing.T, what string, w *record.Writer, want string, wantError api.Errno) {
	t.Helper()
	b, e := w.Done()
	if string(b) != want || e != wantError {
		if len(b) > 100 {
			b = b[:100]
		}
		t.Errorf("%s: Done = %x, %d, want %.100x, %d", what, b, e, want, wantError)
	}
}

func TestP3_1Fields(t *testing.T) {
	for _, c := range []struct {
		what string
		lay  func(w *record.Writer)
		want string
	}{
		{"Num 258 of 2", func(w *record.Writer) { w.Num(258, 2) }, "01 02"},
		{"Num 0 of 1", func(w *record.Writer) { w.Num(0, 1) }, "00"},
		{"Num 255 of 1", func(w *record.Writer) { w.Num(255, 1) }, "ff"},
		{"Num 1 of 3", func(w *record.Writer) { w.Num(1, 3) }, "00 00 01"},
		{"Num of 8", func(w *record.Writer) { w.Num(0x0102030405060708, 8) }, "01 02 03 04 05 06 07 08"},
		{"the greatest Num", func(w *record.Writer) { w.Num(math.MaxUint64, 8) }, "ff ff ff ff ff ff ff ff"},
		{"Int 0", func(w *record.Writer) { w.Int(0) }, "00 00 00 00 00 00 00 00"},
		{"Int -1", func(w *record.Writer) { w.Int(-1) }, "ff ff ff ff ff ff ff ff"},
		{"the least Int", func(w *record.Writer) { w.Int(math.MinInt64) }, "80 00 00 00 00 00 00 00"},
		{"the greatest Int", func(w *record.Writer) { w.Int(math.MaxInt64) }, "7f ff ff ff ff ff ff ff"},
		{"Flag false", func(w *record.Writer) { w.Flag(false) }, "00"},
		{"Flag true", func(w *record.Writer) { w.Flag(true) }, "01"},
		{"nil Bytes", func(w *record.Writer) { w.Bytes(nil) }, "00 00 00 00"},
		{"no Bytes", func(w *record.Writer) { w.Bytes([]byte{}) }, "00 00 00 00"},
		{"Bytes", func(w *record.Writer) { w.Bytes([]byte{0, 255, 7}) }, "00 00 00 03 00 ff 07"},
		{"no Text", func(w *record.Writer) { w.Text("") }, "00 00 00 00"},
		{"Text", func(w *record.Writer) { w.Text("ab") }, "00 00 00 02 61 62"},
		{"Text that is no UTF-8", func(w *record.Writer) { w.Text("\xff\x00\xc3") }, "00 00 00 03 ff 00 c3"},
		{"ID", func(w *record.Writer) { w.ID(api.ID{1, 2, 15: 255}) }, "01 02 00 00 00 00 00 00 00 00 00 00 00 00 00 ff"},
	} {
		w := &record.Writer{}
		c.lay(w)
		wantDone(t, c.what, w, string(unhex(c.want)), api.OK)
	}
}

func TestP3_1Nums(t *testing.T) {
	for width := 1; width <= 8; width++ {
		for bit := range 64 {
			for _, n := range []uint64{1<<bit - 1, 1 << bit, 1<<bit + 1, -(1 << bit)} {
				w := &record.Writer{}
				w.Num(n, width)
				want, e := wantedLaid(field{kind: num, n: n, width: width})
				wantDone(t, "Num", w, want, e)
			}
		}
	}
	for _, width := range widthsThatAreNone {
		for _, n := range []uint64{0, 1, math.MaxUint64} {
			w := &record.Writer{}
			w.Num(n, width)
			wantDone(t, "Num of no width", w, "", api.ErrRecordForm)
		}
	}
}

func TestP3_1Rows(t *testing.T) {
	for _, n := range []int{0, 1, 255, 256, 65535, 65536, api.MaxRow - 1, api.MaxRow, api.MaxRow + 1, api.MaxRow + 256, 1 << 22} {
		s := strings.Repeat("r", n)
		for _, kind := range []int{row, text} {
			w := &record.Writer{}
			lay(w, field{kind: kind, s: s})
			w.Flag(true)
			want, e := wantedLaid(field{kind: kind, s: s})
			if e == api.OK {
				want += "\x01"
			}
			wantDone(t, "a long row", w, want, e)
		}
	}
}

// TestP3_1Behind: each field stands behind those ahead of it, as long as none is refused.
func TestP3_1Behind(t *testing.T) {
	r := rand.New(rand.NewSource(2))
	for range 2000 {
		w, want, refused := &record.Writer{}, "", api.OK
		for range r.Intn(12) {
			f := someField(r)
			if r.Intn(12) == 0 {
				f = field{kind: num, n: r.Uint64() >> r.Intn(64), width: r.Intn(11) - 1}
			}
			lay(w, f)
			laid, e := wantedLaid(f)
			if refused == api.OK {
				want, refused = want+laid, e
			}
			if refused != api.OK {
				want = ""
			}
			wantDone(t, "some fields", w, want, refused)
		}
	}
}

// TestP3_1Refused: of two refusals the first one's error stays, and nothing is laid any more.
func TestP3_1Refused(t *testing.T) {
	long := strings.Repeat("x", api.MaxRow+1)
	forms := []field{{kind: num, n: 256, width: 1}, {kind: num, n: 1 << 56, width: 7}, {kind: num, width: 0}, {kind: num, width: 9}}
	longs := []field{{kind: row, s: long}, {kind: text, s: long}}
	r := rand.New(rand.NewSource(3))
	for _, form := range forms {
		for _, tooLong := range longs {
			for _, c := range []struct {
				first, second field
				want          api.Errno
			}{{form, tooLong, api.ErrRecordForm}, {tooLong, form, api.ErrRecordLong}} {
				w := &record.Writer{}
				w.Text("ahead")
				lay(w, c.first)
				wantDone(t, "one refusal", w, "", c.want)
				lay(w, c.second)
				wantDone(t, "two refusals", w, "", c.want)
				for range 6 {
					lay(w, someField(r))
				}
				wantDone(t, "fields behind a refusal", w, "", c.want)
			}
		}
	}
}

func TestP3_2Done(t *testing.T) {
	w := &record.Writer{}
	wantDone(t, "a new Writer", w, "", api.OK)
	r := rand.New(rand.NewSource(4))
	want := ""
	for range 50 {
		f := someField(r)
		lay(w, f)
		laid, _ := wantedLaid(f)
		want += laid
		for range 3 {
			wantDone(t, "asked again", w, want, api.OK)
		}
	}
	w.Num(1<<32, 4)
	for range 3 {
		wantDone(t, "asked again behind a refusal", w, "", api.ErrRecordForm)
	}
}

// TestP3_2Many: a great many fields, and more bytes in all than one row may have.
func TestP3_2Many(t *testing.T) {
	w := &record.Writer{}
	var want bytes.Buffer
	for i := range 300000 {
		w.Num(uint64(i), 3)
		want.WriteString(laidNumber(uint64(i), 3))
	}
	long := strings.Repeat("y", api.MaxRow)
	for range 3 {
		w.Text(long)
		want.WriteString("\x00\x10\x00\x00" + long)
	}
	wantDone(t, "many fields", w, want.String(), api.OK)
}

// TestP3_9WriterMemory: what is handed in is neither changed nor kept, what is told is the caller's own.
func TestP3_9WriterMemory(t *testing.T) {
	room := []byte("some bytes, and room behind them")
	kept := bytes.Clone(room)
	w := &record.Writer{}
	w.Bytes(room[:10])
	d := api.ID{1, 2, 3}
	w.ID(d)
	if !bytes.Equal(room, kept) {
		t.Fatalf("%q became %q", kept, room)
	}
	clear(room)
	d[0] = 9
	want := "\x00\x00\x00\x0asome bytes\x01\x02\x03" + strings.Repeat("\x00", 13)
	wantDone(t, "behind a change of what was handed in", w, want, api.OK)
	first, _ := w.Done()
	second, _ := w.Done()
	clear(first[:cap(first)])
	if string(second) != want {
		t.Errorf("two answers have memory in common: %q", second)
	}
	wantDone(t, "behind a change of an answer", w, want, api.OK)
	_ = append(second, "more"...)
	w.Flag(true)
	wantDone(t, "behind more", w, want+"\x01", api.OK)
	if string(second) != want {
		t.Errorf("an answer went on: %q", second)
	}
}

// TestP3_9WritersApart: what one Writer lays is laid by none of the others, not even by a copy.
func TestP3_9WritersApart(t *testing.T) {
	a, b := &record.Writer{}, &record.Writer{}
	a.Text("a")
	b.Num(9, 0)
	wantDone(t, "a", a, "\x00\x00\x00\x01a", api.OK)
	wantDone(t, "b", b, "", api.ErrRecordForm)
	for n := range 40 {
		w := record.Writer{}
		for i := range n {
			w.Num(uint64(i), 1)
		}
		ahead, _ := w.Done()
		saved, refused := w, w
		w.Text("one")
		second := w
		refused.Num(256, 1)
		saved.Text("two")
		second.Flag(true)
		w = saved
		w.Text("three")
		wantDone(t, "a copy", &saved, string(ahead)+"\x00\x00\x00\x03two", api.OK)
		wantDone(t, "a copy of a later one", &second, string(ahead)+"\x00\x00\x00\x03one\x01", api.OK)
		wantDone(t, "one that was set back", &w, string(ahead)+"\x00\x00\x00\x03two\x00\x00\x00\x05three", api.OK)
		wantDone(t, "a copy that was refused", &refused, "", api.ErrRecordForm)
	}
}
