package table_test

import (
	"maps"
	"math/rand"
	"slices"
	"strings"
	"testing"

	"postern/api"
	"postern/disk"
	"postern/store"
	"postern/table"
)

// TestP12_8One: behind each Put and Delete that key is changed and no other one; the store is not, till the Commit.
func TestP12_8One(t *testing.T) {
	r := rand.New(rand.NewSource(128))
	for range 60 {
		_, s := started(t, wide, "a=1 b=2 ab=3 \xff=4 c=")
		before := lineOf(s.Range(nil, nil))
		x := table.Begin(s)
		seen := map[string]string{"a": "1", "b": "2", "ab": "3", "\xff": "4", "c": ""}
		for range 30 {
			key, value := anyKey(r), strings.Repeat("v", r.Intn(3))
			if r.Intn(2) == 0 {
				_, there := seen[key]
				wantBool(t, "Delete", x.Delete([]byte(key)), there)
				delete(seen, key)
			} else {
				wantErrno(t, "Put", x.Put([]byte(key), []byte(value)), api.OK)
				seen[key] = value
			}
			wantRange(t, x, "", lineOfPairs(seen, ""))
			wantStore(t, "ahead of the end", s, before)
		}
		if r.Intn(3) == 0 {
			x.Drop()
			wantStore(t, "Drop", s, before)
			continue
		}
		wantErrno(t, "Commit", x.Commit(), api.OK)
		wantStore(t, "Commit", s, lineOfPairs(seen, ""))
	}
}

// walk is some transactions over one store, each beside its model.
type walk struct {
	t       *testing.T
	r       *rand.Rand
	d       *disk.Disk
	s       *store.Store
	m       *model
	real    []*table.Txn
	modeled []*txn
	seen    map[api.Errno]int
}

// TestP12_8Walk: several transactions at a time, in small stores whose power may go, as the model of the chapter's words.
func TestP12_8Walk(t *testing.T) {
	r, seen := rand.New(rand.NewSource(1208)), map[api.Errno]int{}
	for range 300 {
		limits := api.Limits{Pairs: 3 + r.Intn(10), Weight: 100 + r.Intn(300), Log: r.Intn(300)}
		d, s := started(t, limits, "a=1 b=2")
		w := &walk{t: t, r: r, d: d, s: s, m: &model{pairs: map[string]string{"a": "1", "b": "2"}, limits: limits}, seen: seen}
		for range 3 {
			w.real, w.modeled = append(w.real, table.Begin(s)), append(w.modeled, w.m.begin())
		}
		for range 60 {
			w.step()
		}
	}
	for _, e := range []api.Errno{api.OK, api.ErrTableEnd, api.ErrStoreFull, api.ErrStoreOff} {
		if seen[e] < 100 {
			t.Errorf("%d: only %d times", e, seen[e])
		}
	}
}

func (w *walk) step() {
	w.t.Helper()
	i := w.r.Intn(len(w.real))
	x, y := w.real[i], w.modeled[i]
	key, value := anyKey(w.r), strings.Repeat("v", w.r.Intn(30))
	switch n := w.r.Intn(20); {
	case n < 8:
		wantErrno(w.t, "Put", x.Put([]byte(key), []byte(value)), y.put(key, value))
	case n < 13:
		wantBool(w.t, "Delete", x.Delete([]byte(key)), y.delete(key))
	case n < 15:
		w.commit(x, y)
	case n < 16:
		x.Drop()
		y.drop()
	case n < 18:
		w.real[i], w.modeled[i] = table.Begin(w.s), w.m.begin()
	case n < 19:
		l := batch(key + "=" + value)
		wantErrno(w.t, "past it", w.s.Commit(l), w.m.commit(l))
	case w.r.Intn(4) == 0 && !w.m.off:
		w.d.Arm(1, 0)
		wantErrno(w.t, "torn", w.s.Commit(batch("-nothing")), api.ErrStoreOff)
		w.m.off = true
	}
	for i := range w.real {
		wantRange(w.t, w.real[i], "", w.modeled[i].line(""))
		wantRange(w.t, w.real[i], key[:1], w.modeled[i].line(key[:1]))
		wantChanges(w.t, w.real[i], lineOfChanges(w.modeled[i].changes()))
	}
	wantStore(w.t, "step", w.s, w.m.line())
}

func (w *walk) commit(x *table.Txn, y *txn) {
	w.t.Helper()
	writes, nothing := w.d.Writes(), len(y.changes()) == 0
	got := x.Commit()
	wantErrno(w.t, "Commit", got, y.commit())
	w.seen[got]++
	if nothing && w.d.Writes() != writes {
		w.t.Error("a Commit of no changes has written")
	}
}

// TestP12_8Power: whatever is kept of the write, the store that is opened again has all changes or none.
func TestP12_8Power(t *testing.T) {
	kept := map[string]int{}
	for keep := range 80 {
		d, s := started(t, wide, "a=1 b=2")
		x := table.Begin(s)
		note(t, x, "a=9 -b c=3 d=4")
		d.Arm(1, keep)
		wantErrno(t, "Commit", x.Commit(), api.ErrStoreOff)
		wantOver(t, "Commit", x)
		wantStore(t, "off", s, "a=1 b=2")
		d.On()
		anew, e := store.Open(d, wide)
		wantErrno(t, "Open", e, api.OK)
		kept[lineOf(table.Begin(anew).Range(nil))]++
	}
	if len(kept) != 2 || kept["a=1 b=2"] == 0 || kept["a=9 c=3 d=4"] == 0 {
		t.Errorf("%v", kept)
	}
}

// TestP12_9Apart: tables whose prefixes are no beginnings of one another, each beside a map that knows nothing of the others.
func TestP12_9Apart(t *testing.T) {
	r := rand.New(rand.NewSource(129))
	prefixes := []string{"a", "b\x00", "b\x01", "ba", "b\xff", "c/d", "\x00", "\xff\xfe", "\xff\xff"}
	_, s := started(t, wide, "")
	kept := make([]map[string]int, len(prefixes))
	for i := range kept {
		kept[i] = map[string]int{}
	}
	for range 100 {
		x := table.Begin(s)
		now := make([]map[string]int, len(kept))
		for i := range kept {
			now[i] = maps.Clone(kept[i])
		}
		for range 20 {
			i, n := r.Intn(len(prefixes)), r.Intn(256)
			key := anyKey(r)[r.Intn(2):]
			if b := numbers(prefixes[i]); r.Intn(3) == 0 {
				_, there := now[i][key]
				wantBool(t, "Delete", b.Delete(x, []byte(key)), there)
				delete(now[i], key)
			} else {
				wantErrno(t, "Put", b.Put(x, []byte(key), n), api.OK)
				now[i][key] = n
			}
			wantTables(t, x, prefixes, now)
		}
		if r.Intn(3) == 0 {
			x.Drop()
			continue
		}
		wantErrno(t, "Commit", x.Commit(), api.OK)
		kept = now
		wantTables(t, table.Begin(s), prefixes, kept)
	}
}

// wantTables asks for the rows of each table: one by one, as lists, and that there are no others.
func wantTables(t *testing.T, x *table.Txn, prefixes []string, want []map[string]int) {
	t.Helper()
	for i, prefix := range prefixes {
		b := numbers(prefix)
		keys := slices.Sorted(maps.Keys(want[i]))
		var rows []int
		for _, key := range keys {
			rows = append(rows, want[i][key])
			wantRow(t, b, x, key, want[i][key], true, api.OK)
		}
		wantList(t, b, x, rows, api.OK)
		wantKeys(t, b, x, keys...)
		wantRow(t, b, x, "none", 0, false, api.OK)
	}
}

// TestP12_9Ill: a row that one table's read refuses is nothing to the others, of one store and of other types, too.
func TestP12_9Ill(t *testing.T) {
	x := begun(t, "m/a=ill n/a=1")
	wantList(t, numbers("m/"), x, nil, api.ErrTableRow)
	wantList(t, numbers("n/"), x, []int{'1'}, api.OK)
	b := texts("m/")
	if row, there, e := b.Get(x, []byte("a")); row != "ill" || !there || e != api.OK {
		t.Errorf("%q, %v, %d", row, there, e)
	}
	wantErrno(t, "Put", b.Put(x, []byte("a"), "z"), api.OK)
	wantList(t, numbers("m/"), x, []int{'z'}, api.OK)
	wantList(t, numbers("n/"), x, []int{'1'}, api.OK)
}

// TestP12_9Last: of a row that was put many times the last one is told, at once and behind the Commit.
func TestP12_9Last(t *testing.T) {
	_, s := started(t, wide, "")
	b := numbers("n/")
	x := table.Begin(s)
	for n := range 256 {
		wantErrno(t, "Put", b.Put(x, []byte("k"), n), api.OK)
		wantRow(t, b, x, "k", n, true, api.OK)
	}
	wantBool(t, "Delete", b.Delete(x, []byte("k")), true)
	wantRow(t, b, x, "k", 0, false, api.OK)
	wantErrno(t, "Put", b.Put(x, []byte("k"), 3), api.OK)
	wantErrno(t, "Commit", x.Commit(), api.OK)
	wantRow(t, b, table.Begin(s), "k", 3, true, api.OK)
	wantList(t, b, table.Begin(s), []int{3}, api.OK)
}
