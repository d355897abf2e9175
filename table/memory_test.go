package table_test

import (
	"bytes"
	"strings"
	"testing"

	"postern/api"
	"postern/table"
)

// rows are slices of bytes that are laid and read as they lie there: nothing but the table keeps them apart.
func rows(prefix string) table.Table[[]byte] {
	return table.New([]byte(prefix), func(b []byte) []byte { return b }, func(b []byte) ([]byte, api.Errno) { return b, api.OK })
}

// TestP12_10HandedIn: what is handed in is not changed, nor is the room behind it.
func TestP12_10HandedIn(t *testing.T) {
	const text = "n/key,value,more"
	room := []byte(text)
	x := begun(t, "n/=0 n/key,=1")
	wantErrno(t, "Put", x.Put(room[:5], room[6:11]), api.OK)
	x.Get(room[:5])
	x.Delete(room[:6])
	lineOf(x.Range(room[:2]))
	b := table.New(room[:2], func(b []byte) []byte { return b }, func(b []byte) ([]byte, api.Errno) { return b, api.OK })
	wantErrno(t, "Put of a row", b.Put(x, room[6:9], room[10:13]), api.OK)
	b.Get(x, room[6:9])
	b.List(x)
	b.Keys(x)
	b.Delete(x, room[2:3])
	x.Changes()
	wantErrno(t, "Commit", x.Commit(), api.OK)
	if string(room) != text {
		t.Errorf("became %q", room)
	}
}

// TestP12_10Kept: what is handed in is not kept.
func TestP12_10Kept(t *testing.T) {
	_, s := started(t, wide, "a=1")
	x := table.Begin(s)
	key, value := []byte("key"), []byte("value")
	wantErrno(t, "Put", x.Put(key, value), api.OK)
	spoil(key)
	spoil(value)
	key = []byte("a")
	wantBool(t, "Delete", x.Delete(key), true)
	spoil(key)
	prefix := []byte("n/")
	b := table.New(prefix, func(b []byte) []byte { return b }, func(b []byte) ([]byte, api.Errno) { return b, api.OK })
	spoil(prefix)
	key, value = []byte("x"), []byte("row")
	wantErrno(t, "Put of a row", b.Put(x, key, value), api.OK)
	spoil(key)
	spoil(value)
	prefix = []byte("n")
	seq := x.Range(prefix)
	spoil(prefix)
	if got := lineOf(seq); got != "n/x=row" {
		t.Errorf("Range: %q", got)
	}
	wantRange(t, x, "", "key=value n/x=row")
	wantChanges(t, x, "-a key=value n/x=row")
	wantErrno(t, "Commit", x.Commit(), api.OK)
	wantStore(t, "Commit", s, "key=value n/x=row")
}

// TestP12_10Told: what is told is the caller's own, each time anew; of noted pairs and of the store's.
func TestP12_10Told(t *testing.T) {
	_, s := started(t, wide, "n/a=one n/b=two")
	x, b := table.Begin(s), rows("n/")
	note(t, x, "n/b=three n/c=four n/d=")
	seq := x.Range([]byte("n/"))
	const want = "n/a=one n/b=three n/c=four n/d="
	for range 3 {
		for _, key := range []string{"a", "b", "c", "d"} {
			value, _ := x.Get([]byte("n/" + key))
			spoil(value)
			row, _, _ := b.Get(x, []byte(key))
			spoil(row)
		}
		for key, value := range seq {
			spoil(key)
			spoil(value)
			_, _ = append(key, "more"...), append(value, "more"...)
		}
		for _, c := range x.Changes() {
			spoil(c.Key)
			spoil(c.Value)
		}
		l, _ := b.List(x)
		for _, row := range l {
			spoil(row)
		}
		for _, key := range b.Keys(x) {
			spoil(key)
		}
		wantRange(t, x, "", want)
		wantChanges(t, x, "n/b=three n/c=four n/d=")
		wantStore(t, "spoilt", s, "n/a=one n/b=two")
		wantKeys(t, b, x, "a", "b", "c", "d")
	}
}

// TestP12_10Lists: no two parts of one answer share their room.
func TestP12_10Lists(t *testing.T) {
	x, b := begun(t, "n/a=one n/b=two n/c=three"), rows("n/")
	note(t, x, "n/a=1 n/b=22 n/d=333")
	l, _ := b.List(x)
	var parts [][]byte
	parts = append(append(parts, l...), b.Keys(x)...)
	for _, c := range x.Changes() {
		parts = append(parts, c.Key, c.Value)
	}
	for key, value := range x.Range(nil) {
		parts = append(parts, key, value)
	}
	for i, part := range parts {
		before := make([]string, len(parts))
		for j := range parts {
			before[j] = string(parts[j])
		}
		spoil(part)
		for j := range parts {
			if j != i && string(parts[j]) != before[j] {
				t.Errorf("part %d is in part %d's room", j, i)
			}
		}
	}
}

// TestP12_10Read: a read that writes into what it is handed, and keeps it, reaches neither the row nor what is noted.
func TestP12_10Read(t *testing.T) {
	var kept [][]byte
	b := table.New([]byte("n/"), func(b []byte) []byte { return b }, func(b []byte) ([]byte, api.Errno) {
		row := bytes.Clone(b)
		spoil(b)
		kept = append(kept, b)
		return row, api.OK
	})
	x := begun(t, "n/a=store")
	row := []byte("row")
	wantErrno(t, "Put", b.Put(x, []byte("b"), row), api.OK)
	if string(row) != "row" {
		t.Errorf("the row became %q", row)
	}
	for range 2 {
		if got, there, e := b.Get(x, []byte("b")); string(got) != "row" || !there || e != api.OK {
			t.Errorf("Get: %q, %v, %d", got, there, e)
		}
		if l, e := b.List(x); string(bytes.Join(l, []byte(" "))) != "store row" || e != api.OK {
			t.Errorf("List: %q, %d", l, e)
		}
		for _, k := range kept {
			spoil(k)
		}
		wantRange(t, x, "", "n/a=store n/b=row")
	}
}

// TestP12_10Apart: transactions over one store, and over two, know nothing of what another one has noted, nor of its end.
func TestP12_10Apart(t *testing.T) {
	_, s := started(t, wide, "a=1")
	_, other := started(t, wide, "a=1")
	x, y, z := table.Begin(s), table.Begin(s), table.Begin(other)
	note(t, x, "a=2 b=3")
	for _, u := range []*table.Txn{y, z} {
		wantRange(t, u, "", "a=1")
		wantChanges(t, u, "")
	}
	note(t, y, "c=4")
	wantErrno(t, "Commit", x.Commit(), api.OK)
	wantRange(t, y, "", "a=2 b=3 c=4")
	wantRange(t, z, "", "a=1")
	wantChanges(t, y, "c=4")
	z.Drop()
	wantErrno(t, "Commit of the second", y.Commit(), api.OK)
	wantStore(t, "both", s, "a=2 b=3 c=4")
	wantStore(t, "the other", other, "a=1")
}

// TestP12_10Nil: nil and empty are one, handed in.
func TestP12_10Nil(t *testing.T) {
	for _, none := range [][]byte{nil, {}, make([]byte, 0, 9)} {
		x := begun(t, "a=1")
		wantErrno(t, "Put of no key", x.Put(none, none), api.ErrStoreKey)
		wantErrno(t, "Put", x.Put([]byte("b"), none), api.OK)
		wantGet(t, x, "b", "", true)
		wantGet(t, x, string(none), "", false)
		wantBool(t, "Delete", x.Delete(none), false)
		if got := lineOf(x.Range(none)); got != "a=1 b=" {
			t.Errorf("Range: %q", got)
		}
		wantChanges(t, x, "b=")
		b := table.New(none, func([]byte) []byte { return none }, func(b []byte) ([]byte, api.Errno) { return b, api.OK })
		wantErrno(t, "Put of a row", b.Put(x, []byte("c"), none), api.OK)
		wantKeys(t, b, x, "a", "b", "c")
		if row, there, e := b.Get(x, []byte("c")); len(row) != 0 || !there || e != api.OK {
			t.Errorf("%q, %v, %d", row, there, e)
		}
	}
}

// TestP12_10Ends: great inputs end without a panic, while it goes on and behind its end.
func TestP12_10Ends(t *testing.T) {
	x := begun(t, "a=1")
	for _, over := range []bool{false, true} {
		for _, n := range []int{0, 1, 255, 256, 257, 1 << 18, 1<<18 + 1, 1 << 22} {
			great := bytes.Repeat([]byte{0xff}, n)
			b := rows(string(great))
			x.Get(great)
			x.Put(great, great)
			x.Put([]byte("a"), great)
			lineOf(x.Range(great))
			b.Get(x, great)
			b.Put(x, great, great)
			b.List(x)
			b.Keys(x)
			b.Delete(x, great)
			x.Delete(great)
		}
		if over {
			continue
		}
		wantRange(t, x, "", "a="+strings.Repeat("\xff", 1<<18))
		x.Drop()
	}
	wantOver(t, "great", x)
}
