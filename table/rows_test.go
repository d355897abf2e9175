package table_test

import (
	"slices"
	"strings"
	"testing"

	"postern/api"
	"postern/table"
)

func wantRow(t *testing.T, b table.Table[int], x *table.Txn, key string, want int, there bool, e api.Errno) {
	t.Helper()
	if n, is, got := b.Get(x, []byte(key)); n != want || is != there || got != e {
		t.Errorf("Get(%.100q): %d, %v, %d, not %d, %v, %d", key, n, is, got, want, there, e)
	}
}

func wantList(t *testing.T, b table.Table[int], x *table.Txn, want []int, e api.Errno) {
	t.Helper()
	if l, got := b.List(x); !slices.Equal(l, want) || got != e {
		t.Errorf("List: %v, %d, not %v, %d", l, got, want, e)
	}
}

func wantKeys[R any](t *testing.T, b table.Table[R], x *table.Txn, want ...string) {
	t.Helper()
	var l []string
	for _, key := range b.Keys(x) {
		l = append(l, string(key))
	}
	if !slices.Equal(l, want) {
		t.Errorf("Keys: %.300q, not %.300q", l, want)
	}
}

// TestP12_Example5: a table of whole numbers in one byte.
func TestP12_Example5(t *testing.T) {
	x := begun(t, "")
	b := numbers("n/")
	wantErrno(t, "Put", b.Put(x, []byte("x"), 7), api.OK)
	wantGet(t, x, "n/x", "\x07", true)
	note(t, x, "n/y=ab")
	wantRow(t, b, x, "y", 0, false, api.ErrTableRow)
	wantRow(t, b, x, "x", 7, true, api.OK)
	wantList(t, b, x, nil, api.ErrTableRow)
	wantKeys(t, b, x, "x", "y")
}

// TestP12_5Nil: without a lay or a read no row is put; without a read none is told.
func TestP12_5Nil(t *testing.T) {
	for _, c := range []struct {
		what string
		b    table.Table[int]
		lay  bool
		read bool
	}{
		{"no lay", table.New([]byte("n/"), nil, readNumber), false, true},
		{"no read", table.New([]byte("n/"), layNumber, nil), true, false},
		{"neither", table.New[int]([]byte("n/"), nil, nil), false, false},
	} {
		x := begun(t, "m=1")
		wantRow(t, c.b, x, "x", 0, false, api.OK)
		wantList(t, c.b, x, nil, api.OK)
		wantErrno(t, c.what, c.b.Put(x, []byte("x"), 7), api.ErrTableRow)
		wantErrno(t, c.what+", a key too long", c.b.Put(x, make([]byte, 300), 7), api.ErrTableRow)
		wantChanges(t, x, "")
		note(t, x, "n/x=7")
		if c.read {
			wantRow(t, c.b, x, "x", '7', true, api.OK)
			wantList(t, c.b, x, []int{'7'}, api.OK)
		} else {
			wantRow(t, c.b, x, "x", 0, false, api.ErrTableRow)
			wantList(t, c.b, x, nil, api.ErrTableRow)
		}
		wantRow(t, c.b, x, "y", 0, false, api.OK)
		wantKeys(t, c.b, x, "x")
		wantBool(t, c.what+": Delete", c.b.Delete(x, []byte("x")), true)
		wantBool(t, c.what+": Delete again", c.b.Delete(x, []byte("x")), false)
		wantList(t, c.b, x, nil, api.OK)
		x.Drop()
		wantErrno(t, c.what+", over", c.b.Put(x, []byte("x"), 7), api.ErrTableEnd)
	}
}

// TestP12_5Calls: lay and read are asked for what the words name, and for no more.
func TestP12_5Calls(t *testing.T) {
	laid, were := 0, []string(nil)
	b := table.New([]byte("p"), func(s string) []byte { laid++; return []byte(s) }, func(b []byte) (string, api.Errno) {
		were = append(were, string(b))
		return string(b), api.OK
	})
	x := begun(t, "p1=a p2=b q=c")
	b.Keys(x)
	b.Delete(x, []byte("2"))
	b.Get(x, []byte("2"))
	b.Get(x, []byte("3"))
	if laid != 0 || were != nil {
		t.Errorf("laid %d times, read %q", laid, were)
	}
	wantErrno(t, "Put", b.Put(x, []byte("2"), "d"), api.OK)
	b.List(x)
	b.Get(x, []byte("1"))
	if got := strings.Join(were, " "); laid != 1 || got != "d a d a" {
		t.Errorf("laid %d times, read %q", laid, got)
	}
	x.Drop()
	wantErrno(t, "over", b.Put(x, []byte("2"), "e"), api.ErrTableEnd)
	if laid != 1 || len(were) != 4 {
		t.Errorf("laid %d times, read %q", laid, were)
	}
}

// TestP12_6Get: no value, one that read refuses, a row; of the store, and noted.
func TestP12_6Get(t *testing.T) {
	b := numbers("n/")
	x := begun(t, "n/a=1 n/b=ill n/c= n/d=4 m=5 n/=6")
	note(t, x, "n/e=7 n/f=ill -n/d n/a=8")
	for _, c := range []struct {
		key   string
		want  int
		there bool
		e     api.Errno
	}{
		{"a", '8', true, api.OK}, {"b", 0, false, api.ErrTableRow}, {"c", 0, false, api.ErrTableRow}, {"d", 0, false, api.OK},
		{"e", '7', true, api.OK}, {"f", 0, false, api.ErrTableRow}, {"g", 0, false, api.OK}, {"", '6', true, api.OK},
		{"n/a", 0, false, api.OK}, {strings.Repeat("a", 255), 0, false, api.OK}, {strings.Repeat("a", 1<<16), 0, false, api.OK},
	} {
		wantRow(t, b, x, c.key, c.want, c.there, c.e)
	}
	x.Drop()
	wantRow(t, b, x, "a", 0, false, api.OK)
	wantRow(t, b, x, "b", 0, false, api.OK)
}

// TestP12_6Put: the errors in their order, and the key and the value that are noted.
func TestP12_6Put(t *testing.T) {
	b := table.New([]byte("n/"), func(n int) []byte { return make([]byte, n) }, func(b []byte) (int, api.Errno) {
		if len(b)%2 == 1 {
			return 5, api.ErrRecordForm
		}
		return len(b), api.OK
	})
	x := begun(t, "n/a=12")
	long := strings.Repeat("k", 254)
	for _, c := range []struct {
		what, key string
		row       int
		want      api.Errno
	}{
		{"a row", "b", 2, api.OK},
		{"no bytes", "c", 0, api.OK},
		{"no key", "", 4, api.OK},
		{"the longest key", long, 6, api.OK},
		{"the longest value", "v", 1 << 18, api.OK},
		{"what read refuses", "a", 1, api.ErrTableRow},
		{"a key too long", long + "k", 2, api.ErrStoreKey},
		{"a value too long", "v", 1<<18 + 2, api.ErrStoreValue},
		{"what read refuses, a key too long", long + "k", 1, api.ErrTableRow},
		{"what read refuses, a value too long", "v", 1<<18 + 1, api.ErrTableRow},
		{"both too long", long + "k", 1<<18 + 2, api.ErrStoreKey},
	} {
		before := lineOf(x.Range(nil))
		wantErrno(t, c.what, b.Put(x, []byte(c.key), c.row), c.want)
		if c.want == api.OK {
			wantGet(t, x, "n/"+c.key, strings.Repeat("\x00", c.row), true)
			wantRow(t, b, x, c.key, c.row, true, api.OK)
		} else if lineOf(x.Range(nil)) != before {
			t.Errorf("%s: something is noted", c.what)
		}
	}
	wantKeys(t, b, x, "", "a", "b", "c", long, "v")
	x.Drop()
	for _, row := range []int{0, 1, 2, 1<<18 + 1, 1<<18 + 2} {
		wantErrno(t, "over", b.Put(x, []byte(long+"k"), row), api.ErrTableEnd)
	}
}

// TestP12_6NoPrefix: the table of no prefix has all keys; none of no bytes, as the store has none.
func TestP12_6NoPrefix(t *testing.T) {
	for _, prefix := range [][]byte{nil, {}, []byte("xyz")[:0]} {
		b := table.New(prefix, layNumber, readNumber)
		x := begun(t, "b=2 a=1")
		wantErrno(t, "Put", b.Put(x, []byte("ab"), 'x'), api.OK)
		wantErrno(t, "no key", b.Put(x, nil, 'x'), api.ErrStoreKey)
		wantErrno(t, "a key too long", b.Put(x, make([]byte, 257), 'x'), api.ErrStoreKey)
		wantErrno(t, "the longest key", b.Put(x, []byte(strings.Repeat("c", 256)), 'y'), api.OK)
		wantRow(t, b, x, "", 0, false, api.OK)
		wantBool(t, "Delete of no key", b.Delete(x, nil), false)
		wantList(t, b, x, []int{'1', 'x', '2', 'y'}, api.OK)
		wantKeys(t, b, x, "a", "ab", "b", strings.Repeat("c", 256))
	}
}

// TestP12_6LongPrefix: a prefix beyond what a key may be has no rows, and takes none.
func TestP12_6LongPrefix(t *testing.T) {
	x := begun(t, "a=1")
	b := numbers(strings.Repeat("a", 257))
	wantErrno(t, "Put", b.Put(x, nil, 1), api.ErrStoreKey)
	wantRow(t, b, x, "", 0, false, api.OK)
	wantBool(t, "Delete", b.Delete(x, nil), false)
	wantList(t, b, x, nil, api.OK)
	wantKeys(t, b, x)
	whole := numbers(strings.Repeat("a", 256))
	wantErrno(t, "Put of no key", whole.Put(x, nil, 1), api.OK)
	wantErrno(t, "Put", whole.Put(x, []byte("b"), 1), api.ErrStoreKey)
	wantKeys(t, whole, x, "")
}

// TestP12_6Delete: t's Delete of prefix and key, whatever read says.
func TestP12_6Delete(t *testing.T) {
	b := numbers("n/")
	x := begun(t, "n/a=1 n/b=ill a=2 n/=3")
	note(t, x, "n/c=4")
	for _, c := range []struct {
		key  string
		want bool
	}{{"a", true}, {"a", false}, {"b", true}, {"c", true}, {"c", false}, {"d", false}, {"", true}, {"", false}, {"n/a", false}, {strings.Repeat("a", 257), false}} {
		wantBool(t, "Delete "+c.key, b.Delete(x, []byte(c.key)), c.want)
	}
	wantChanges(t, x, "-n/ -n/a -n/b")
	wantRange(t, x, "", "a=2")
	x.Drop()
	wantBool(t, "over", b.Delete(x, []byte("a")), false)
}

// TestP12_7Lists: rows and keys in the order of the keys, of the store and noted; one that read refuses, at each place.
func TestP12_7Lists(t *testing.T) {
	b := numbers("n/")
	_, s := started(t, wide, "n=0 n.=0 n/b=2 n/d=4 n/a=1 n0=0 o=ill m/=ill n/\xff=9")
	x := table.Begin(s)
	wantList(t, b, x, []int{'1', '2', '4', '9'}, api.OK)
	wantKeys(t, b, x, "a", "b", "d", "\xff")
	note(t, x, "n/c=3 n/=5 -n/d n/\x00=6 n/aa=7 n/b=8 n0a=0")
	wantList(t, b, x, []int{'5', '6', '1', '7', '8', '3', '9'}, api.OK)
	wantKeys(t, b, x, "", "\x00", "a", "aa", "b", "c", "\xff")
	for _, key := range []string{"", "\x00", "a", "aa", "b", "c", "\xff", "\xff\xff"} {
		before, there := x.Get([]byte("n/" + key))
		note(t, x, "n/"+key+"=ill")
		wantList(t, b, x, nil, api.ErrTableRow)
		if there {
			wantErrno(t, "Put", x.Put([]byte("n/"+key), before), api.OK)
			wantKeys(t, b, x, "", "\x00", "a", "aa", "b", "c", "\xff")
		} else {
			x.Delete([]byte("n/" + key))
		}
		wantList(t, b, x, []int{'5', '6', '1', '7', '8', '3', '9'}, api.OK)
	}
	x.Drop()
	wantList(t, b, x, nil, api.OK)
	wantKeys(t, b, x)
	none := numbers("none")
	wantList(t, none, table.Begin(s), nil, api.OK)
	wantKeys(t, none, table.Begin(s))
}
