package wal_test

import (
	"math"
	"math/rand"
	"slices"
	"strings"
	"testing"

	"postern/api"
	"postern/disk"
	"postern/wal"
)

// TestP10_4Power: the power goes at each write of a row of Appends and each keep of it; then in the Opens behind it, done or not.
func TestP10_4Power(t *testing.T) {
	row := []string{"a", "", "some more bytes", "\xc9", frameOf("inner"), "", "z"}
	for n := range row {
		for keep := -1; keep <= len(frameOf(row[n]))+1; keep++ {
			for _, inOpen := range []int{0, 1} {
				wantRow(t, row, n, keep, inOpen)
			}
		}
	}
}

// wantRow appends a row of which the n-th is torn, and has the power go in the next Open too.
func wantRow(t *testing.T, row []string, n, keep, inOpen int) {
	t.Helper()
	d := made(t, roomy)
	l := wantOpen(t, "new", d, "log")
	d.Arm(n+1, keep)
	for i, s := range row {
		want := []api.Errno{api.OK, api.ErrDiskOff, api.ErrWalOff}[1+min(max(i-n, -1), 1)]
		wantErrno(t, s, l.Append([]byte(s)), want)
	}
	whole := n
	if keep >= len(frameOf(row[n])) {
		whole++
	}
	d.On()
	left, _ := d.Size("log")
	torn := left > len(framesOf(row[:whole]...))
	d.Arm(1, inOpen)
	if _, _, e := wal.Open(d, "log"); torn != (e == api.ErrDiskOff) || torn != d.Off() {
		t.Fatalf("%d, keep %d: torn in Open: %d", n, keep, e)
	}
	d.On()
	d.Arm(0, 0)
	l = wantOpen(t, "again", d, "log", row[:whole]...)
	wantErrno(t, "behind it", l.Append([]byte("behind")), api.OK)
	wantOpen(t, "behind it", d, "log", append(slices.Clone(row[:whole]), "behind")...)
}

// TestP10_4Byte: of a file of whole frames with one byte changed, whichever and however, nothing is told.
func TestP10_4Byte(t *testing.T) {
	for _, l := range [][]string{{""}, {"a"}, {"first", "second"}, {"", "", ""}, {"\xc9", frameOf("x"), "\x00\x00"}, {strings.Repeat("ab", 200), "c"}} {
		text := framesOf(l...)
		for i := range len(text) {
			for change := 1; change < 256; change++ {
				bent := []byte(text)
				bent[i] ^= byte(change)
				wantNoLog(t, "a byte changed", holding(t, string(bent)), "log", api.ErrWalDamage)
			}
		}
	}
}

// TestP10_4Laid: so it is with what Append has laid.
func TestP10_4Laid(t *testing.T) {
	d := made(t, roomy)
	l := wantOpen(t, "new", d, "log")
	for _, s := range []string{"one", "", "three"} {
		wantErrno(t, s, l.Append([]byte(s)), api.OK)
	}
	text, _ := d.Read("log")
	for i := range text {
		for _, c := range []byte{0, 1, text[i] ^ 1, text[i] ^ 0x80, 0xc9, 0xff} {
			if c == text[i] {
				continue
			}
			bent := slices.Clone(text)
			bent[i] = c
			wantNoLog(t, "a byte changed", holding(t, string(bent)), "log", api.ErrWalDamage)
		}
	}
}

// walk is a log over a disk that is armed again and again, and, by the chapter's words, which records stand.
type walk struct {
	t     *testing.T
	r     *rand.Rand
	d     *disk.Disk
	l     *wal.Log
	off   bool
	stand []string
	seen  map[api.Errno]int
}

func (w *walk) record() string {
	all := someRecords()
	if w.r.Intn(2) == 0 {
		return all[w.r.Intn(len(all))]
	}
	return strings.Repeat("r", w.r.Intn(30))
}

// append asks for what P10.2 says; where the power went, the record stands if all of its frame was kept.
func (w *walk) append(armed, keep int) {
	w.t.Helper()
	s := w.record()
	want, power := api.OK, w.d.Off()
	used, _ := w.d.Size("log")
	full := used+len(frameOf(s)) > w.d.Room()
	switch {
	case w.off:
		want = api.ErrWalOff
	case power || armed == 1 && !full:
		want = api.ErrDiskOff
	case full:
		want = api.ErrDiskFull
	}
	size := w.l.Size()
	got := w.l.Append([]byte(s))
	w.seen[got]++
	if got != want {
		w.t.Fatalf("Append: %d, not %d", got, want)
	}
	if got == api.OK {
		size += len(frameOf(s))
	}
	wantLog(w.t, "Append", w.l, "log", size)
	if got == api.OK || !w.off && !power && got == api.ErrDiskOff && keep >= len(frameOf(s)) {
		w.stand = append(w.stand, s)
	}
	w.off = w.off || got != api.OK
}

// open asks for what stands; where the power goes in it, it is opened again.
func (w *walk) open(armed int) {
	w.t.Helper()
	w.d.On()
	before, _ := w.d.Size("log")
	torn := before > len(framesOf(w.stand...))
	if torn && armed == 1 {
		if l, records, e := wal.Open(w.d, "log"); l != nil || len(records) != 0 || e != api.ErrDiskOff {
			w.t.Fatalf("torn in Open: %d records, %d", len(records), e)
		}
		w.d.On()
	}
	w.l, w.off = wantOpen(w.t, "walk", w.d, "log", w.stand...), false
	if n, _ := w.d.Size("log"); n != w.l.Size() {
		w.t.Fatalf("the file has %d bytes, not %d", n, w.l.Size())
	}
}

// TestP10_4Model: walks of Appends and Opens, many of them torn, in rooms that many fill.
func TestP10_4Model(t *testing.T) {
	r := rand.New(rand.NewSource(104))
	seen := map[api.Errno]int{}
	for range 300 {
		w := &walk{t: t, r: r, d: made(t, 100+r.Intn(20000)), seen: seen}
		w.l = wantOpen(t, "new", w.d, "log")
		for range 100 {
			armed, keep := r.Intn(12), []int{math.MinInt, 0, r.Intn(60), r.Intn(60), math.MaxInt}[r.Intn(5)]
			w.d.Arm(armed, keep)
			if r.Intn(5) == 0 || w.off && r.Intn(2) == 0 {
				w.open(armed)
				continue
			}
			w.append(armed, keep)
		}
		w.d.Arm(0, 0)
		w.open(0)
	}
	for _, e := range []api.Errno{api.OK, api.ErrDiskOff, api.ErrDiskFull, api.ErrWalOff} {
		if seen[e] < 100 {
			t.Errorf("Append told %d only %d times", e, seen[e])
		}
	}
}
