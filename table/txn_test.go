package table_test

import (
	"strings"
	"testing"

	"postern/api"
	"postern/table"
)

// TestP12_1Begin: a new one has noted nothing, and sees what the store tells.
func TestP12_1Begin(t *testing.T) {
	d, s := started(t, wide, "a=1 b=2 ab=3 e=")
	x := table.Begin(s)
	wantChanges(t, x, "")
	wantRange(t, x, "", "a=1 ab=3 b=2 e=")
	for key, want := range map[string]string{"a": "1", "b": "2", "ab": "3", "e": ""} {
		wantGet(t, x, key, want, true)
	}
	for _, key := range []string{"", "c", "A", "a\x00", "aba", "1", strings.Repeat("a", 257), strings.Repeat("a", 1<<16)} {
		wantGet(t, x, key, "", false)
	}
	if d.Writes() != 1 {
		t.Errorf("%d writes", d.Writes())
	}
	if table.Begin(s) == x {
		t.Error("another one is the same")
	}
}

// TestP12_1Get: what is noted of the key; else what the store tells at that time.
func TestP12_1Get(t *testing.T) {
	_, s := started(t, wide, "a=1 b=2 c=3")
	x := table.Begin(s)
	note(t, x, "a=9 -b d=4 e=")
	for key, want := range map[string]string{"a": "9", "c": "3", "d": "4", "e": ""} {
		wantGet(t, x, key, want, true)
	}
	wantGet(t, x, "b", "", false)
	wantErrno(t, "past it", s.Commit(batch("a=5 b=6 -c d=7 -e f=8")), api.OK)
	for key, want := range map[string]string{"a": "9", "d": "4", "e": "", "f": "8"} {
		wantGet(t, x, key, want, true)
	}
	wantGet(t, x, "b", "", false)
	wantGet(t, x, "c", "", false)
	wantRange(t, x, "", "a=9 d=4 e= f=8")
	if value, _ := x.Get([]byte("b")); value != nil {
		t.Errorf("none is told as %v", value)
	}
}

// TestP12_2Put: what may be put, and the errors of what may not, at each edge.
func TestP12_2Put(t *testing.T) {
	x := begun(t, "a=1")
	long := strings.Repeat("k", 256)
	great := strings.Repeat("v", 262144)
	for _, c := range []struct {
		what, key, value string
		want             api.Errno
	}{
		{"a value", "b", "2", api.OK},
		{"no value", "c", "", api.OK},
		{"in the place of another", "a", "9", api.OK},
		{"the shortest key", "\x00", "0", api.OK},
		{"the longest key", long, "1", api.OK},
		{"the longest value", "g", great, api.OK},
		{"both", long[1:] + "!", great, api.OK},
		{"no key", "", "1", api.ErrStoreKey},
		{"a key too long", long + "k", "1", api.ErrStoreKey},
		{"a value too long", "a", great + "v", api.ErrStoreValue},
		{"no key and a value too long", "", great + "v", api.ErrStoreKey},
		{"both too long", long + "k", great + "v", api.ErrStoreKey},
	} {
		before, there := x.Get([]byte(c.key))
		wantErrno(t, c.what, x.Put([]byte(c.key), []byte(c.value)), c.want)
		if c.want == api.OK {
			wantGet(t, x, c.key, c.value, true)
		} else {
			wantGet(t, x, c.key, string(before), there)
		}
	}
	wantRange(t, x, "", "\x00=0 a=9 b=2 c= g="+great+" "+long[1:]+"!="+great+" "+long+"=1")
}

// TestP12_2Alike: Put's errors of a key or a value are those that a store has for the one change.
func TestP12_2Alike(t *testing.T) {
	_, s := started(t, wide, "")
	for _, key := range []int{0, 1, 2, 255, 256, 257, 1 << 16} {
		for _, value := range []int{0, 1, 1<<18 - 1, 1 << 18, 1<<18 + 1, 1 << 24, 1<<24 + 1} {
			x := table.Begin(s)
			got := x.Put(make([]byte, key), make([]byte, value))
			x.Drop()
			wantErrno(t, "as the store", got, s.Commit([]api.Change{{Key: make([]byte, key), Value: make([]byte, value)}}))
		}
	}
}

// TestP12_2Full: Put asks neither for room nor for the power: the end does.
func TestP12_2Full(t *testing.T) {
	d, s := started(t, api.Limits{Pairs: 1, Weight: 20, Log: 100}, "a=1")
	x := table.Begin(s)
	note(t, x, "b=2 c=3 d=a-value-of-some-weight")
	wantRange(t, x, "", "a=1 b=2 c=3 d=a-value-of-some-weight")
	wantErrno(t, "Commit", x.Commit(), api.ErrStoreFull)
	d.Arm(1, 0)
	wantErrno(t, "torn", s.Commit(batch("a=2")), api.ErrStoreOff)
	x = table.Begin(s)
	note(t, x, "a=3 b=2")
	wantRange(t, x, "", "a=3 b=2")
	wantErrno(t, "no key", x.Put(nil, nil), api.ErrStoreKey)
	wantErrno(t, "Commit", x.Commit(), api.ErrStoreOff)
}

// TestP12_2Delete: whether the transaction sees a value; only then something is noted.
func TestP12_2Delete(t *testing.T) {
	_, s := started(t, wide, "a=1 b= c=3")
	x := table.Begin(s)
	for _, c := range []struct {
		key  string
		want bool
	}{{"a", true}, {"a", false}, {"b", true}, {"b", false}, {"x", false}, {"", false}, {strings.Repeat("a", 257), false}, {"aa", false}} {
		wantBool(t, "Delete "+c.key, x.Delete([]byte(c.key)), c.want)
	}
	wantRange(t, x, "", "c=3")
	wantChanges(t, x, "-a -b")
	note(t, x, "a=2 y=")
	wantBool(t, "put again", x.Delete([]byte("a")), true)
	wantBool(t, "put without a value", x.Delete([]byte("y")), true)
	wantBool(t, "gone again", x.Delete([]byte("y")), false)
	wantErrno(t, "past it", s.Commit(batch("x=1 b=2 y=3 -c")), api.OK)
	// Of x nothing was noted, so the store's x is seen; b and y are noted as gone.
	wantRange(t, x, "", "x=1")
	wantBool(t, "noted as gone", x.Delete([]byte("b")), false)
	wantBool(t, "gone from the store", x.Delete([]byte("c")), false)
	wantBool(t, "come to the store", x.Delete([]byte("x")), true)
	wantChanges(t, x, "-a -b -x -y")
}

// TestP12_2Over: behind the end nothing is taken; ErrTableEnd is told ahead of the others.
func TestP12_2Over(t *testing.T) {
	_, s := started(t, wide, "a=1 b=2 n/x=7")
	for what, end := range map[string]func(*table.Txn){
		"Commit":         func(x *table.Txn) { x.Commit() },
		"Drop":           func(x *table.Txn) { x.Drop() },
		"Drop twice":     func(x *table.Txn) { x.Drop(); x.Drop() },
		"Commit, Drop":   func(x *table.Txn) { x.Commit(); x.Drop() },
		"Drop, Commit":   func(x *table.Txn) { x.Drop(); x.Commit() },
		"Commit of none": func(x *table.Txn) { note(t, x, "a=1 c=4 -c"); x.Commit() },
	} {
		x := table.Begin(s)
		note(t, x, "ab=3 a=1")
		end(x)
		wantOver(t, what, x)
		wantOver(t, what+" again", x)
		other := table.Begin(s)
		wantGet(t, other, "a", "1", true)
		other.Drop()
	}
	wantStore(t, "behind all", s, "a=1 ab=3 b=2 n/x=7")
}

// TestP12_Examples: the chapter's first four.
func TestP12_Examples(t *testing.T) {
	d, s := started(t, wide, "a=1 b=2 ab=3")
	x := table.Begin(s)
	wantErrno(t, "Put c", x.Put([]byte("c"), []byte("4")), api.OK)
	wantBool(t, "Delete a", x.Delete([]byte("a")), true)
	wantBool(t, "Delete a again", x.Delete([]byte("a")), false)
	wantGet(t, x, "a", "", false)
	wantGet(t, x, "b", "2", true)
	wantRange(t, x, "", "ab=3 b=2 c=4")
	wantRange(t, x, "a", "ab=3")
	wantChanges(t, x, "-a c=4")
	wantErrno(t, "Put b", x.Put([]byte("b"), []byte("2")), api.OK)
	wantErrno(t, "Put c", x.Put([]byte("c"), []byte("5")), api.OK)
	wantChanges(t, x, "-a c=5")
	wantBool(t, "Delete c", x.Delete([]byte("c")), true)
	wantChanges(t, x, "-a")
	wantErrno(t, "Commit", x.Commit(), api.OK)
	wantStore(t, "Commit", s, "ab=3 b=2")
	wantOver(t, "Commit", x)
	writes := d.Writes()
	wantErrno(t, "of nothing", table.Begin(s).Commit(), api.OK)
	d.Arm(1, 0)
	wantErrno(t, "torn", s.Commit(batch("z=1")), api.ErrStoreOff)
	wantErrno(t, "of nothing, the power off", table.Begin(s).Commit(), api.OK)
	if d.Writes() != writes+1 {
		t.Errorf("%d writes, not %d", d.Writes(), writes+1)
	}
}
