package table_test

import (
	"strconv"
	"testing"

	"postern/api"
	"postern/store"
	"postern/table"
)

// TestP12_4Changes: of each key of which something is noted that, unless the store tells just the same.
func TestP12_4Changes(t *testing.T) {
	_, s := started(t, wide, "a=1 b= c=3")
	for _, c := range []struct{ noted, want string }{
		{"", ""},
		{"a=1", ""}, {"a=2", "a=2"}, {"a=", "a="}, {"a=11", "a=11"}, {"a=1 a=2 a=1", ""}, {"a=2 a=3", "a=3"},
		{"b=", ""}, {"b=1", "b=1"}, {"-b", "-b"}, {"-b b=", ""},
		{"x=1", "x=1"}, {"x=", "x="}, {"-x", ""}, {"x=1 -x", ""}, {"x=1 -x x=2", "x=2"},
		{"-a", "-a"}, {"-a -a", "-a"}, {"-a a=1", ""}, {"-a a=", "a="}, {"a=2 -a", "-a"},
		{"z=1 -c ab=2 b=5 -a", "-a ab=2 b=5 -c z=1"},
		{"\xff=1 \x00=2 a\x00=3 a=4", "\x00=2 a=4 a\x00=3 \xff=1"},
	} {
		x := table.Begin(s)
		note(t, x, c.noted)
		wantChanges(t, x, c.want)
		wantChanges(t, x, c.want)
		wantStore(t, c.noted, s, "a=1 b= c=3")
	}
}

// TestP12_4AtThatTime: what is noted stays noted, though the store tells the same for a while.
func TestP12_4AtThatTime(t *testing.T) {
	_, s := started(t, wide, "a=1 b=2")
	x := table.Begin(s)
	note(t, x, "a=1 -b c=3 -c d=4")
	for _, c := range []struct{ past, want string }{
		{"", "-b d=4"}, {"a=5", "a=1 -b d=4"}, {"-a", "a=1 -b d=4"}, {"a=1 -b", "d=4"}, {"d=4", ""}, {"b=6 c=7", "-b -c"}, {"-d -c", "-b d=4"}, {"d= e=5", "-b d=4"},
	} {
		wantErrno(t, c.past, s.Commit(batch(c.past)), api.OK)
		wantChanges(t, x, c.want)
		wantRange(t, x, "a", "a=1")
	}
	wantErrno(t, "Commit", x.Commit(), api.OK)
	wantStore(t, "Commit", s, "a=1 d=4 e=5")
}

// TestP12_4Commit: the changes are one batch: one write, all or nothing.
func TestP12_4Commit(t *testing.T) {
	d, s := started(t, wide, "a=1 b=2 ab=3")
	x := table.Begin(s)
	note(t, x, "c=4 -a b=2 d=5 -d e=6")
	size := s.LogSize()
	wantErrno(t, "Commit", x.Commit(), api.OK)
	wantStore(t, "Commit", s, "ab=3 b=2 c=4 e=6")
	// A batch has 17 bytes, and each of its changes 9 more than its key and its value: a gone, c, e.
	if got := s.LogSize() - size; got != 17+(9+1)+(9+2)+(9+2) || d.Writes() != 2 {
		t.Errorf("%d bytes, %d writes", got, d.Writes())
	}
	wantErrno(t, "again", x.Commit(), api.ErrTableEnd)
	anew, _ := store.Open(d, wide)
	wantStore(t, "anew", anew, "ab=3 b=2 c=4 e=6")
}

// TestP12_4None: without changes the store is not asked, be it off.
func TestP12_4None(t *testing.T) {
	d, s := started(t, wide, "a=1 b=2")
	for _, off := range []bool{false, true} {
		if off {
			d.Arm(1, 0)
			wantErrno(t, "torn", s.Commit(batch("z=1")), api.ErrStoreOff)
		}
		writes := d.Writes()
		for _, line := range []string{"", "a=1", "a=1 b=2", "a=9 a=1", "-a a=1", "c=1 -c", "-c"} {
			x := table.Begin(s)
			note(t, x, line)
			wantErrno(t, line, x.Commit(), api.OK)
			wantOver(t, line, x)
		}
		x := table.Begin(s)
		note(t, x, "a=2")
		x.Drop()
		if d.Writes() != writes || s.LogSize() != 39 {
			t.Errorf("off %v: %d writes, a log of %d bytes", off, d.Writes()-writes, s.LogSize())
		}
	}
}

// TestP12_4Refused: each error of the store is handed on; the transaction is over all the same, and the store is as it was.
func TestP12_4Refused(t *testing.T) {
	limits := api.Limits{Pairs: 1 << 16, Weight: 1 << 26, Log: 1 << 26}
	many := func(n int) func(*table.Txn) {
		return func(x *table.Txn) {
			for i := range n {
				x.Put([]byte("k"+strconv.Itoa(i)), nil)
			}
		}
	}
	great := func(x *table.Txn) {
		for i := range 64 {
			x.Put([]byte("k"+strconv.Itoa(i)), make([]byte, 1<<18))
		}
	}
	for _, c := range []struct {
		what   string
		limits api.Limits
		armed  bool
		do     func(*table.Txn)
		want   api.Errno
	}{
		{"the most changes", limits, false, many(1 << 14), api.OK},
		{"one more", limits, false, many(1<<14 + 1), api.ErrStoreBatch},
		{"too long a form", limits, false, great, api.ErrStoreBatch},
		{"too many pairs", api.Limits{Pairs: 3, Weight: 1000, Log: 100}, false, many(3), api.ErrStoreFull},
		{"as many as may be", api.Limits{Pairs: 4, Weight: 1000, Log: 100}, false, many(3), api.OK},
		{"too heavy", api.Limits{Pairs: 100, Weight: 71, Log: 100}, false, many(3), api.ErrStoreFull},
		{"as heavy as may be", api.Limits{Pairs: 100, Weight: 72, Log: 100}, false, many(3), api.OK},
		{"torn", limits, true, many(3), api.ErrStoreOff},
	} {
		d, s := started(t, c.limits, "a=1")
		x := table.Begin(s)
		c.do(x)
		if c.armed {
			d.Arm(1, 0)
		}
		wantErrno(t, c.what, x.Commit(), c.want)
		wantOver(t, c.what, x)
		if c.want != api.OK {
			wantStore(t, c.what, s, "a=1")
		}
	}
}

// TestP12_4Same: changes that the store tells already are no changes: they are not counted, and not weighed.
func TestP12_4Same(t *testing.T) {
	_, s := started(t, wide, "")
	x := table.Begin(s)
	for i := range 1 << 14 {
		x.Put([]byte("k"+strconv.Itoa(i)), nil)
	}
	wantErrno(t, "Commit", x.Commit(), api.OK)
	x = table.Begin(s)
	for i := range 1<<14 + 1 {
		x.Put([]byte("k"+strconv.Itoa(i)), nil)
	}
	wantChanges(t, x, "k16384=")
	wantErrno(t, "Commit", x.Commit(), api.OK)
	if s.Len() != 1<<14+1 {
		t.Errorf("%d pairs", s.Len())
	}
}

// TestP12_4Drop: what was noted is forgotten.
func TestP12_4Drop(t *testing.T) {
	d, s := started(t, wide, "a=1 b=2")
	x := table.Begin(s)
	note(t, x, "a=9 -b c=3")
	x.Drop()
	wantOver(t, "Drop", x)
	wantStore(t, "Drop", s, "a=1 b=2")
	if d.Writes() != 1 {
		t.Errorf("%d writes", d.Writes())
	}
	wantRange(t, table.Begin(s), "", "a=1 b=2")
}
