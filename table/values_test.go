package table_test

import (
	"iter"
	"strings"
	"testing"

	"postern/api"
	"postern/disk"
	"postern/store"
	"postern/table"
)

// wide are limits that no small test meets.
var wide = api.Limits{Pairs: 1 << 16, Weight: 1 << 26, Log: 1 << 26}

// started tells a disk, and a store over it that holds the pairs of a line.
func started(t *testing.T, limits api.Limits, line string) (*disk.Disk, *store.Store) {
	t.Helper()
	d, e := disk.New(1 << 27)
	if e != api.OK {
		t.Fatalf("New: %d", e)
	}
	s, e := store.Open(d, limits)
	if e != api.OK {
		t.Fatalf("Open: %d", e)
	}
	wantErrno(t, line, s.Commit(batch(line)), api.OK)
	return d, s
}

func begun(t *testing.T, line string) *table.Txn {
	t.Helper()
	_, s := started(t, wide, line)
	return table.Begin(s)
}

// batch reads changes from a line: a=1 sets, -a takes away.
func batch(line string) []api.Change {
	var l []api.Change
	for _, word := range strings.Fields(line) {
		if key, gone := strings.CutPrefix(word, "-"); gone {
			l = append(l, api.Change{Key: []byte(key), Gone: true})
			continue
		}
		key, value, _ := strings.Cut(word, "=")
		l = append(l, api.Change{Key: []byte(key), Value: []byte(value)})
	}
	return l
}

// note has a transaction note the changes of a line.
func note(t *testing.T, x *table.Txn, line string) {
	t.Helper()
	for _, c := range batch(line) {
		if c.Gone {
			x.Delete(c.Key)
			continue
		}
		wantErrno(t, line, x.Put(c.Key, c.Value), api.OK)
	}
}

// lineOf tells pairs in one line.
func lineOf(seq iter.Seq2[[]byte, []byte]) string {
	var l []string
	for key, value := range seq {
		l = append(l, string(key)+"="+string(value))
	}
	return strings.Join(l, " ")
}

// lineOfChanges tells changes in one line, as batch reads it.
func lineOfChanges(l []api.Change) string {
	var words []string
	for _, c := range l {
		word := string(c.Key) + "=" + string(c.Value)
		if c.Gone {
			word = "-" + string(c.Key)
			if len(c.Value) > 0 {
				word += " with a value"
			}
		}
		words = append(words, word)
	}
	return strings.Join(words, " ")
}

func wantErrno(t *testing.T, what string, got, want api.Errno) {
	t.Helper()
	if got != want {
		t.Errorf("%.100s: %d, not %d", what, got, want)
	}
}

func wantBool(t *testing.T, what string, got, want bool) {
	t.Helper()
	if got != want {
		t.Errorf("%.100s: %v", what, got)
	}
}

func wantGet(t *testing.T, x *table.Txn, key, want string, there bool) {
	t.Helper()
	if value, is := x.Get([]byte(key)); string(value) != want || is != there {
		t.Errorf("Get(%.100q): %.100q, %v, not %.100q, %v", key, value, is, want, there)
	}
}

func wantRange(t *testing.T, x *table.Txn, prefix, want string) {
	t.Helper()
	if got := lineOf(x.Range([]byte(prefix))); got != want {
		t.Errorf("Range(%.100q): %.300q, not %.300q", prefix, got, want)
	}
}

func wantChanges(t *testing.T, x *table.Txn, want string) {
	t.Helper()
	if got := lineOfChanges(x.Changes()); got != want {
		t.Errorf("Changes: %.300q, not %.300q", got, want)
	}
}

func wantStore(t *testing.T, what string, s *store.Store, want string) {
	t.Helper()
	if got := lineOf(s.Range(nil, nil)); got != want {
		t.Errorf("%s: the store tells %.300q, not %.300q", what, got, want)
	}
}

// wantOver asks that a transaction sees nothing, has noted nothing, and takes nothing.
func wantOver(t *testing.T, what string, x *table.Txn) {
	t.Helper()
	for _, key := range []string{"", "a", "b", "ab", "c", "n/x"} {
		wantGet(t, x, key, "", false)
		wantBool(t, what+": Delete", x.Delete([]byte(key)), false)
		wantErrno(t, what+": Put", x.Put([]byte(key), nil), api.ErrTableEnd)
	}
	wantErrno(t, what+": Put of a long key", x.Put(make([]byte, 257), nil), api.ErrTableEnd)
	wantErrno(t, what+": Put of a long value", x.Put([]byte("k"), make([]byte, 1<<18+1)), api.ErrTableEnd)
	wantRange(t, x, "", "")
	wantRange(t, x, "a", "")
	wantChanges(t, x, "")
	wantErrno(t, what+": Commit", x.Commit(), api.ErrTableEnd)
}

// spoil writes over all bytes that a slice can reach.
func spoil(b []byte) {
	b = b[:cap(b)]
	for i := range b {
		b[i] = '!'
	}
}

// numbers are rows of one byte.
func numbers(prefix string) table.Table[int] {
	return table.New([]byte(prefix), layNumber, readNumber)
}

func layNumber(n int) []byte { return []byte{byte(n)} }

// readNumber tells a row beside its error, too: nobody may hand that on.
func readNumber(b []byte) (int, api.Errno) {
	if len(b) != 1 {
		return 77, api.ErrRecordLeft
	}
	return int(b[0]), api.OK
}

// texts are rows that are laid as they are.
func texts(prefix string) table.Table[string] {
	return table.New([]byte(prefix), func(s string) []byte { return []byte(s) }, func(b []byte) (string, api.Errno) { return string(b), api.OK })
}
