package store_test

import (
	"math"
	"math/rand"
	"slices"
	"strings"
	"testing"

	"postern/api"
	"postern/disk"
	"postern/store"
)

// walk is a store over a disk that is armed again and again, beside its model over a disk of the same kind.
type walk struct {
	t      *testing.T
	r      *rand.Rand
	d      *disk.Disk
	s      *store.Store
	m      *model
	before map[string]string // the pairs ahead of the call in which the power went
	after  map[string]string // and, of a Commit, as it would have made them
	seen   map[string]int
}

func newWalk(t *testing.T, r *rand.Rand, seen map[string]int) *walk {
	room := 300 + r.Intn(3000)
	limits := api.Limits{Pairs: 1 + r.Intn(6), Weight: 20 + r.Intn(200), Log: []int{0, r.Intn(100), r.Intn(300), 1000}[r.Intn(4)]}
	files := []api.File{file("other", "x")}
	if r.Intn(4) == 0 {
		files = append(files, file("snap", snapOf(last-uint64(r.Intn(4)), "")))
	}
	w := &walk{t: t, r: r, d: made(t, room, files...), seen: seen}
	w.m = &model{d: made(t, room, files...), limits: limits}
	w.open()
	return w
}

// alike asks that the store and its disk are those of the model.
func (w *walk) alike(what string) {
	w.t.Helper()
	if got, want := told(w.d), told(w.m.d); got != want || w.d.Writes() != w.m.d.Writes() || w.d.Off() != w.m.d.Off() {
		w.t.Fatalf("%s: files %.600q, %d writes; not %.600q, %d", what, got, w.d.Writes(), want, w.m.d.Writes())
	}
	if w.s == nil {
		return
	}
	if got, want := pairsOf(w.s, "", ""), w.m.line("", ""); got != want {
		w.t.Fatalf("%s: pairs %q, not %q", what, got, want)
	}
	if w.s.Len() != len(w.m.pairs) || w.s.Weight() != w.m.weight() || w.s.Number() != w.m.number || w.s.LogSize() != w.m.logSize || w.s.Err() != w.m.err {
		w.t.Fatalf("%s: Len %d, Weight %d, Number %d, LogSize %d, Err %d; not %d, %d, %d, %d, %d", what,
			w.s.Len(), w.s.Weight(), w.s.Number(), w.s.LogSize(), w.s.Err(), len(w.m.pairs), w.m.weight(), w.m.number, w.m.logSize, w.m.err)
	}
}

// open has the power on again; where it goes in Open, the store is opened once more.
func (w *walk) open() {
	w.t.Helper()
	for {
		w.d.On()
		w.m.d.On()
		s, e := store.Open(w.d, w.m.limits)
		if want := w.m.open(); e != want || (s != nil) != (want == api.OK) {
			w.t.Fatalf("Open: %d, not %d", e, want)
		}
		w.s = s
		w.alike("Open")
		if s != nil {
			break
		}
		w.seen["torn Open"]++
	}
	if got := w.m.line("", ""); w.before != nil && got != (&model{pairs: w.before}).line("", "") && got != (&model{pairs: w.after}).line("", "") {
		w.t.Fatalf("Open: %q, neither %q nor %q", got, w.before, w.after)
	}
	w.before, w.after = nil, nil
	w.tidy("Open")
}

// tidy asks that no file is there but those that there must be, and no byte more than they need.
func (w *walk) tidy(what string) {
	w.t.Helper()
	for _, f := range w.d.Files() {
		want := 1
		switch f.Name {
		case "snap":
			continue // its bytes are the model's
		case "log." + decimal(w.s.Number()):
			want = w.s.LogSize()
		case "other":
		default:
			w.t.Fatalf("%s: a file %s is there", what, f.Name)
		}
		if len(f.Bytes) != want {
			w.t.Fatalf("%s: %s has %d bytes, not %d", what, f.Name, len(f.Bytes), want)
		}
	}
}

// change tells one that, mostly, may be.
func (w *walk) change() api.Change {
	c := api.Change{Key: []byte("abcdef"[w.r.Intn(6):][:1]), Value: []byte("0123456789012345678901234567890123456789"[w.r.Intn(40):])}
	switch w.r.Intn(12) {
	case 0, 1, 2, 3:
		c.Gone, c.Value = true, nil
	case 4:
		c.Value = nil
	case 5:
		c.Gone = true
	case 6:
		if w.r.Intn(3) == 0 {
			c.Key = nil
		}
	}
	return c
}

// step is one call, of the store and of the model.
func (w *walk) step() {
	w.t.Helper()
	was, on := w.m.pairs, w.m.err == api.OK
	var got, want api.Errno
	what, after := "Commit", was
	if w.r.Intn(8) == 0 {
		what = "Compact"
		got, want = w.s.Compact(), w.m.compact()
	} else {
		var l []api.Change
		for range w.r.Intn(5) {
			l = append(l, w.change())
		}
		after = behind(was, l)
		got, want = w.s.Commit(l), w.m.commit(l)
	}
	w.seen[what+" "+decimal(uint64(got))]++
	if got != want {
		w.t.Fatalf("%s: %d, not %d", what, got, want)
	}
	w.alike(what)
	if got == api.OK {
		w.tidy(what)
		w.again()
	}
	if on && got == api.ErrStoreOff {
		w.before, w.after = was, after
	}
}

// again asks that a store that is opened anew, at this moment, is the same one.
func (w *walk) again() {
	w.t.Helper()
	if w.r.Intn(4) != 0 {
		return
	}
	d := made(w.t, w.d.Room(), w.d.Files()...)
	s := opened(w.t, "again", d, w.m.limits)
	if pairsOf(s, "", "") != w.m.line("", "") || s.Number() != w.s.Number() || s.LogSize() != w.s.LogSize() {
		w.t.Fatalf("again: %q, %d, %d", pairsOf(s, "", ""), s.Number(), s.LogSize())
	}
	wantWrites(w.t, "again", d, 0)
}

// TestP11_6Model: walks of Commits, Compacts and Opens, many of them torn, in rooms and limits that many fill.
func TestP11_6Model(t *testing.T) {
	r := rand.New(rand.NewSource(116))
	seen := map[string]int{}
	for range 1500 {
		w := newWalk(t, r, seen)
		for range 60 {
			if r.Intn(6) == 0 {
				n, keep := r.Intn(5), []int{math.MinInt, 0, 1, r.Intn(80), r.Intn(80), math.MaxInt}[r.Intn(6)]
				w.d.Arm(n, keep)
				w.m.d.Arm(n, keep)
			}
			if w.m.err != api.OK && r.Intn(3) != 0 || r.Intn(20) == 0 {
				w.open()
				continue
			}
			w.step()
		}
	}
	for _, what := range []string{"Commit 0", "Commit 111", "Commit 112", "Commit 114", "Commit 116", "Compact 0", "Compact 114", "Compact 116", "torn Open"} {
		if seen[what] < 100 {
			t.Errorf("%s: only %d times", what, seen[what])
		}
	}
}

// TestP11_6Power: a row of calls, torn at each write, with each keep; then torn in each write of the Opens behind it.
func TestP11_6Power(t *testing.T) {
	limits := api.Limits{Pairs: 4, Weight: 200, Log: 90}
	calls := []string{"a=1 b=2", "c=3", "-a d=4 c=", "compact", "a=5", "b=6 -c", "x=" + strings.Repeat("y", 60), "compact", "compact", "-x"}
	for n := 1; ; n++ {
		torn := false
		for keep := 0; keep <= 130; keep++ {
			d := made(t, roomy)
			s := opened(t, "new", d, limits)
			m := &model{d: made(t, roomy), limits: limits, pairs: map[string]string{}}
			d.Arm(n, keep)
			before, after := "", ""
			for _, line := range calls {
				before = m.line("", "")
				e := api.OK
				if line == "compact" {
					e = s.Compact()
				} else {
					m.pairs = behind(m.pairs, batch(line))
					e = s.Commit(batch(line))
				}
				after = m.line("", "")
				if e != api.OK {
					torn = true
					break
				}
			}
			if d.Off() {
				wantEither(t, d, limits, before, after)
			}
		}
		if !torn {
			if n < 20 {
				t.Errorf("only %d writes", n)
			}
			return
		}
	}
}

// wantEither opens a disk whose power has gone, torn again at each write of that, and asks for one of two lines of pairs.
func wantEither(t *testing.T, d *disk.Disk, limits api.Limits, before, after string) {
	t.Helper()
	left := d.Files()
	for n := 0; n < 3; n++ {
		for _, keep := range []int{0, 1} {
			d := made(t, roomy, left...)
			d.Arm(n, keep)
			store.Open(d, limits)
			d.On()
			d.Arm(0, 0)
			s := opened(t, "on", d, limits)
			got := pairsOf(s, "", "")
			if got != before && got != after {
				t.Fatalf("%q, neither %q nor %q", got, before, after)
			}
			if s.Commit(batch("-a -b -c -d -x z=1")) != api.OK || pairsOf(opened(t, "goes on", d, limits), "", "") != "z=1" {
				t.Fatalf("it does not go on")
			}
		}
	}
}

// TestP11_6Sizes: how many bytes the files have.
func TestP11_6Sizes(t *testing.T) {
	d := made(t, roomy)
	s := opened(t, "new", d, wide)
	log := 0
	for _, line := range []string{"a=1", "bb=22 -c", "-a -b", "z="} {
		wantErrno(t, line, s.Commit(batch(line)), api.OK)
		log += 17
		for _, c := range batch(line) {
			log += 9 + len(c.Key) + len(c.Value)
		}
		if n, _ := d.Size("log.0"); n != log || s.LogSize() != log {
			t.Errorf("%s: %d bytes, LogSize %d, not %d", line, n, s.LogSize(), log)
		}
	}
	wantErrno(t, "Compact", s.Compact(), api.OK)
	if n, _ := d.Size("snap"); n != 25+(21+4)+(21+1) {
		t.Errorf("snap: %d bytes", n)
	}
}

// TestP11_6Byte: one byte of snap or of log.k changed, whichever and however: damage, and nothing is written.
func TestP11_6Byte(t *testing.T) {
	d := made(t, roomy)
	s := opened(t, "new", d, wide)
	for _, line := range []string{"a=1 bb=22", "-c", ""} {
		wantErrno(t, line, s.Commit(batch(line)), api.OK)
	}
	wantErrno(t, "Compact", s.Compact(), api.OK)
	wantErrno(t, "behind it", s.Commit(batch("c=3 -a")), api.OK)
	wantErrno(t, "behind it", s.Commit(batch("d=")), api.OK)
	for at, f := range d.Files() {
		for i := range f.Bytes {
			for change := 1; change < 256; change++ {
				files := d.Files()
				files[at].Bytes[i] ^= byte(change)
				bent := made(t, roomy, files...)
				wantNone(t, f.Name, bent, wide, api.ErrStoreDamage)
				wantWrites(t, f.Name, bent, 0)
			}
		}
	}
}

// TestP11_6Two: two batches do what one of both does.
func TestP11_6Two(t *testing.T) {
	r := rand.New(rand.NewSource(1162))
	w := &walk{t: t, r: r}
	both := 0
	for range 2000 {
		limits := api.Limits{Pairs: 1 + r.Intn(5), Weight: 20 + r.Intn(150), Log: r.Intn(100)}
		one, two := opened(t, "new", made(t, roomy), limits), opened(t, "new", made(t, roomy), limits)
		var a, b []api.Change
		for range r.Intn(5) {
			a, b = append(a, w.change()), append(b, w.change())
		}
		if one.Commit(a) != api.OK || one.Commit(b) != api.OK || two.Commit(slices.Concat(a, b)) != api.OK {
			continue
		}
		both++
		if pairsOf(one, "", "") != pairsOf(two, "", "") || one.Len() != two.Len() || one.Weight() != two.Weight() {
			t.Fatalf("%q, %q", pairsOf(one, "", ""), pairsOf(two, "", ""))
		}
	}
	if both < 500 {
		t.Errorf("only %d", both)
	}
}

// TestExamples: the chapter's examples; where its fourth one counts compactions, that of the third one's last Commit is counted too (P11.2).
func TestExamples(t *testing.T) {
	limits := api.Limits{Pairs: 3, Weight: 100, Log: 60}
	d := made(t, 1000)
	s := opened(t, "new", d, limits)
	wantLog(t, "new", s, 0, 0)
	wantFiles(t, "new", d)
	wantErrno(t, "1", s.Commit(batch("a=1 b=")), api.OK)
	wantPairs(t, "1", s, "a=1 b=")
	if s.Len() != 2 || s.Weight() != 35 {
		t.Errorf("1: %d, %d", s.Len(), s.Weight())
	}
	wantLog(t, "1", s, 0, 38)
	wantErrno(t, "1", s.Commit(nil), api.OK)
	wantGet(t, s, []byte("b"), "", true)
	wantGet(t, s, []byte("c"), "", false)
	if got := pairsOf(s, "", "") + "|" + pairsOf(s, "aa", "") + "|" + pairsOf(s, "", "b"); got != "a=1 b=|b=|a=1" {
		t.Errorf("1: %s", got)
	}
	wantErrno(t, "2", s.Commit(batch("c=2 d=3")), api.ErrStoreFull)
	wantErrno(t, "2", s.Commit(batch("-b c=2 d=3")), api.OK)
	wantFiles(t, "2", d, file("snap", snapOf(1, "a=1 b=")), file("log.1", logOf("-b c=2 d=3")))
	wantLog(t, "2", s, 1, 49)
	wantErrno(t, "3", s.Commit([]api.Change{{Value: []byte("1")}}), api.ErrStoreKey)
	wantErrno(t, "3", s.Commit([]api.Change{{Key: []byte("a"), Value: []byte("1"), Gone: true}}), api.ErrStoreValue)
	wantErrno(t, "3", s.Commit(batch("-x")), api.OK)
	wantLog(t, "3", s, 2, 27)
	wantErrno(t, "4", s.Compact(), api.OK)
	wantLog(t, "4", s, 3, 0)
	wantFiles(t, "4", d, file("snap", snapOf(3, "a=1 c=2 d=3")))
	d.Arm(1, 9)
	wantErrno(t, "4", s.Commit(batch("a=9")), api.ErrStoreOff)
	wantErrno(t, "4", s.Err(), api.ErrDiskOff)
	wantErrno(t, "4", s.Commit(nil), api.ErrStoreOff)
	wantGet(t, s, []byte("a"), "1", true)
	d.On()
	s = opened(t, "4", d, limits)
	wantPairs(t, "4", s, "a=1 c=2 d=3")
	wantFiles(t, "4", d, file("snap", snapOf(3, "a=1 c=2 d=3")), file("log.3", ""))
	d.Arm(1, 99)
	wantErrno(t, "4", s.Commit(batch("a=9")), api.ErrStoreOff)
	d.On()
	s = opened(t, "4", d, limits)
	wantPairs(t, "4", s, "a=9 c=2 d=3")
	for _, keep := range []int{0, 1} {
		d.Arm(2, keep)
		wantErrno(t, "5", s.Compact(), api.ErrStoreOff)
		d.On()
		s = opened(t, "5", d, limits)
		wantPairs(t, "5", s, "a=9 c=2 d=3")
	}
	wantFiles(t, "5", d, file("snap", snapOf(4, "a=9 c=2 d=3")))
	wantNone(t, "6", d, api.Limits{Pairs: 1, Weight: 100, Log: 60}, api.ErrStoreDamage)
	wantNone(t, "6", d, api.Limits{Pairs: 0, Weight: 1, Log: 0}, api.ErrStoreLimits)
}
