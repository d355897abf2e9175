package store_test

import (
	"slices"
	"strings"
	"testing"

	"postern/api"
	"postern/disk"
	"postern/store"
)

// wantRefused asks that a batch is refused, and that nothing has changed.
func wantRefused(t *testing.T, what string, d *disk.Disk, s *store.Store, l []api.Change, want api.Errno) {
	t.Helper()
	files, writes, pairs, number, size, e := told(d), d.Writes(), pairsOf(s, "", ""), s.Number(), s.LogSize(), s.Err()
	n, weight := s.Len(), s.Weight()
	wantErrno(t, what, s.Commit(l), want)
	if told(d) != files || d.Writes() != writes {
		t.Errorf("%s: it has written", what)
	}
	if pairsOf(s, "", "") != pairs || s.Len() != n || s.Weight() != weight {
		t.Errorf("%s: pairs %.300q, not %.300q; Len %d, %d; Weight %d, %d", what, pairsOf(s, "", ""), pairs, s.Len(), n, s.Weight(), weight)
	}
	wantLog(t, what, s, number, size)
	wantErrno(t, what, s.Err(), e)
}

// TestP11_2Commit: batches one behind the other, each by one write.
func TestP11_2Commit(t *testing.T) {
	d := made(t, roomy)
	s := opened(t, "new", d, wide)
	lines := []string{"a=1 b=2", "b=3", "-a", "-a", "-x", "a= a=4 -b b=5 -b", "z=", "-a -z", "k=1 k=1 k=1", "k=1"}
	wants := []string{"a=1 b=2", "a=1 b=3", "b=3", "b=3", "b=3", "a=4", "a=4 z=", "", "k=1", "k=1"}
	for i, line := range lines {
		wantErrno(t, line, s.Commit(batch(line)), api.OK)
		wantPairs(t, line, s, wants[i])
		text := logOf(lines[:i+1]...)
		wantFiles(t, line, d, file("log.0", text))
		wantWrites(t, line, d, i+1)
		wantLog(t, line, s, 0, len(text))
		wantPairs(t, line, opened(t, line, d, wide), wants[i])
	}
}

// TestP11_2Key, Value: the edges of what may be, in each place of a batch.
func TestP11_2Key(t *testing.T) {
	for _, n := range []int{1, 2, 255, 256} {
		d := made(t, roomy)
		s := opened(t, "new", d, wide)
		key := strings.Repeat("k", n)
		wantErrno(t, "key", s.Commit(batch(key+"=1")), api.OK)
		wantPairs(t, "key", s, key+"=1")
		wantErrno(t, "key", s.Commit(batch("-"+key)), api.OK)
		wantPairs(t, "key", s, "")
	}
	d := made(t, roomy)
	s := opened(t, "new", d, wide)
	wantErrno(t, "ahead", s.Commit(batch("a=1 b=2")), api.OK)
	for _, n := range []int{0, 257, 258, 512, 1 << 16, 1 << 20} {
		for _, gone := range []bool{false, true} {
			bad := api.Change{Key: make([]byte, n), Gone: gone}
			wantRefused(t, "alone", d, s, []api.Change{bad}, api.ErrStoreKey)
			wantRefused(t, "first", d, s, slices.Insert(batch("a=9 -b c=3"), 0, bad), api.ErrStoreKey)
			wantRefused(t, "half way", d, s, slices.Insert(batch("a=9 -b c=3"), 2, bad), api.ErrStoreKey)
			wantRefused(t, "last", d, s, append(batch("a=9 -b c=3"), bad), api.ErrStoreKey)
		}
	}
}

func TestP11_2Value(t *testing.T) {
	d := made(t, roomy)
	s := opened(t, "new", d, wide)
	for _, n := range []int{0, 1, 262143, 262144} {
		wantErrno(t, "value", s.Commit([]api.Change{{Key: []byte("v"), Value: make([]byte, n)}}), api.OK)
		if v, there := s.Get([]byte("v")); len(v) != n || !there {
			t.Errorf("%d: %d, %v", n, len(v), there)
		}
	}
	for _, bad := range []api.Change{
		{Key: []byte("a"), Value: make([]byte, 262145)}, {Key: []byte("a"), Value: make([]byte, 1<<20+1)}, {Key: []byte("a"), Value: make([]byte, 262145), Gone: true},
		{Key: []byte("a"), Value: []byte("1"), Gone: true}, {Key: []byte("v"), Value: []byte("\x00"), Gone: true}, {Key: []byte("a"), Value: make([]byte, 262144), Gone: true},
	} {
		wantRefused(t, "alone", d, s, []api.Change{bad}, api.ErrStoreValue)
		wantRefused(t, "half way", d, s, slices.Insert(batch("a=9 -v c=3"), 2, bad), api.ErrStoreValue)
	}
	wantErrno(t, "no value beside gone", s.Commit([]api.Change{{Key: []byte("v"), Value: []byte{}, Gone: true}}), api.OK)
	wantPairs(t, "gone", s, "")
}

// TestP11_2Many: as many changes as may be, and one more.
func TestP11_2Many(t *testing.T) {
	d := made(t, 1<<22)
	s := opened(t, "new", d, wide)
	l := make([]api.Change, 16385)
	for i := range l {
		l[i] = batch("a=" + decimal(uint64(i)))[0]
	}
	wantRefused(t, "one more", d, s, l, api.ErrStoreBatch)
	wantRefused(t, "many more", d, s, slices.Concat(l, l), api.ErrStoreBatch)
	wantErrno(t, "just", s.Commit(l[:16384]), api.OK)
	wantPairs(t, "just", s, "a=16383")
	wantPairs(t, "just", opened(t, "again", d, wide), "a=16383")
}

// TestP11_2Long: a form of as many bytes as may be, and one more.
func TestP11_2Long(t *testing.T) {
	value := make([]byte, 1<<18)
	var l []api.Change
	for i := range 63 {
		l = append(l, api.Change{Key: []byte{byte(i)}, Value: value})
	}
	// 4 bytes, and 63 changes of 10 + 2^18; the last one has what is left.
	left := 1<<24 - 4 - 63*(10+1<<18) - 10
	d := made(t, 1<<27)
	s := opened(t, "new", d, api.Limits{Pairs: 70, Weight: 1 << 25, Log: 1 << 20})
	tooLong := append(slices.Clone(l), api.Change{Key: []byte("z"), Value: value[:left+1]})
	wantRefused(t, "one more", d, s, tooLong, api.ErrStoreBatch)
	many := make([]api.Change, 16384)
	for i := range many {
		many[i] = api.Change{Key: []byte("k"), Value: value}
	}
	wantRefused(t, "many more", d, s, many, api.ErrStoreBatch)
	wantErrno(t, "just", s.Commit(append(slices.Clone(l), api.Change{Key: []byte("z"), Value: value[:left]})), api.OK)
	wantLog(t, "just", s, 0, 1<<24+13)
	if again := opened(t, "again", d, api.Limits{Pairs: 70, Weight: 1 << 25}); again.Len() != 64 || again.Weight() != s.Weight() {
		t.Errorf("again: %d, %d", again.Len(), again.Weight())
	}
}

// TestP11_2Full: the pairs behind the whole batch must fit, not those in between.
func TestP11_2Full(t *testing.T) {
	d := made(t, roomy)
	s := opened(t, "new", d, api.Limits{Pairs: 3, Weight: 60, Log: 1000})
	wantErrno(t, "two", s.Commit(batch("a=1 b=2")), api.OK)
	for _, line := range []string{"c=3 d=4", "c= d= e= f=", "a= c= d=", "-x c= d=", "c=12345678", "c= a=123456789", "b=x c=12345678", "d= -d c= d="} {
		wantRefused(t, line, d, s, batch(line), api.ErrStoreFull)
	}
	for _, c := range [][2]string{
		{"c=3 d=4 -a", "b=2 c=3 d=4"}, {"e= f= g= h= -e -f -g -h -d", "b=2 c=3"}, {"b=" + strings.Repeat("x", 99) + " b=", "b= c=3"}, {"c=" + strings.Repeat("x", 25), "b= c=" + strings.Repeat("x", 25)},
		{"d= -b", "c=" + strings.Repeat("x", 25) + " d="},
	} {
		wantErrno(t, c[0], s.Commit(batch(c[0])), api.OK)
		wantPairs(t, c[0], s, c[1])
	}
	wantErrno(t, "just as heavy", s.Commit(batch("c="+strings.Repeat("x", 26))), api.OK)
	wantRefused(t, "a byte more", d, s, batch("c="+strings.Repeat("x", 27)), api.ErrStoreFull)
	wantPairs(t, "again", opened(t, "again", d, api.Limits{Pairs: 3, Weight: 60}), "c="+strings.Repeat("x", 26)+" d=")
}

// TestP11_2Order: of several errors the first one is told; of the changes, that of the first bad one.
func TestP11_2Order(t *testing.T) {
	d := made(t, 1000, file("other", ""))
	s := opened(t, "new", d, api.Limits{Pairs: 1, Weight: 100})
	long := make([]byte, 1<<18+1)
	noKey, noValue := api.Change{Gone: true, Value: long}, api.Change{Key: []byte("a"), Value: long}
	heavy := make([]api.Change, 65)
	for i := range heavy {
		heavy[i] = api.Change{Key: []byte{byte(i)}, Value: long[1:]}
	}
	wantRefused(t, "a key ahead of its value", d, s, []api.Change{noKey}, api.ErrStoreKey)
	wantRefused(t, "a value ahead of the next key", d, s, []api.Change{noValue, noKey}, api.ErrStoreValue)
	wantRefused(t, "a key ahead of the next value", d, s, []api.Change{noKey, noValue}, api.ErrStoreKey)
	wantRefused(t, "too many ahead of a key", d, s, slices.Repeat([]api.Change{noKey}, 16385), api.ErrStoreBatch)
	wantRefused(t, "a key ahead of too long", d, s, append(slices.Clone(heavy), noKey), api.ErrStoreKey)
	wantRefused(t, "a value ahead of too long", d, s, append(slices.Clone(heavy), noValue), api.ErrStoreValue)
	wantRefused(t, "too long ahead of full", d, s, heavy, api.ErrStoreBatch)
	wantRefused(t, "a value ahead of full", d, s, append(batch("a= b="), noValue), api.ErrStoreValue)
	d.Arm(1, 0)
	wantErrno(t, "torn", d.Remove("other"), api.ErrDiskOff)
	wantRefused(t, "full ahead of the disk", d, s, batch("a= b="), api.ErrStoreFull)
	wantRefused(t, "none ahead of the disk", d, s, nil, api.OK)
	wantErrno(t, "the disk", s.Commit(batch("a=")), api.ErrStoreOff)
	for _, l := range [][]api.Change{nil, {}, {noKey}, {noValue}, heavy, batch("a= b="), batch("a="), slices.Repeat([]api.Change{noKey}, 16385)} {
		wantRefused(t, "off ahead of all", d, s, l, api.ErrStoreOff)
	}
}

// TestP11_2None: an empty batch does nothing, whatever the log.
func TestP11_2None(t *testing.T) {
	d := made(t, roomy)
	s := opened(t, "new", d, api.Limits{Pairs: 9, Weight: 1000, Log: 0})
	for _, line := range []string{"", "a=1", "b=2"} {
		s.Commit(batch(line))
		for _, l := range [][]api.Change{nil, {}, make([]api.Change, 3)[:0]} {
			wantRefused(t, "none", d, s, l, api.OK)
		}
	}
}

// TestP11_2Compacts: if the log and the form's frame have more bytes than Log, it is compacted first.
func TestP11_2Compacts(t *testing.T) {
	first, next := logOf("a=1 b="), logOf("-b c=2 d=3")
	for _, c := range []struct {
		log      int
		compacts bool
	}{{0, true}, {1, true}, {len(first), true}, {len(first) + len(next) - 1, true}, {len(first) + len(next), false}, {len(first) + len(next) + 1, false}, {67108864, false}} {
		d := made(t, roomy)
		s := opened(t, "new", d, api.Limits{Pairs: 3, Weight: 100, Log: c.log})
		wantErrno(t, "first", s.Commit(batch("a=1 b=")), api.OK)
		wantFiles(t, "however long the first one is", d, file("log.0", first))
		wantErrno(t, "next", s.Commit(batch("-b c=2 d=3")), api.OK)
		wantPairs(t, "next", s, "a=1 c=2 d=3")
		if c.compacts {
			wantFiles(t, "compacted", d, file("log.1", next), file("snap", snapOf(1, "a=1 b=")))
			wantWrites(t, "compacted", d, 5)
			wantLog(t, "compacted", s, 1, len(next))
		} else {
			wantFiles(t, "not compacted", d, file("log.0", first+next))
			wantWrites(t, "not compacted", d, 2)
			wantLog(t, "not compacted", s, 0, len(first+next))
		}
	}
}

// TestP11_2Opened: the log's size counts from what Open has found.
func TestP11_2Opened(t *testing.T) {
	l := api.Limits{Pairs: 9, Weight: 1000, Log: 3 * len(logOf("a=1"))}
	d := made(t, roomy, file("log.4", logOf("a=1", "b=2")), file("snap", snapOf(4, "")))
	wantErrno(t, "just", opened(t, "4", d, l).Commit(batch("c=3")), api.OK)
	wantFiles(t, "just", d, file("log.4", logOf("a=1", "b=2", "c=3")), file("snap", snapOf(4, "")))
	wantErrno(t, "one more", opened(t, "4", d, l).Commit(batch("d=4")), api.OK)
	wantFiles(t, "one more", d, file("log.5", logOf("d=4")), file("snap", snapOf(5, "a=1 b=2 c=3")))
}

// TestP11_2RefusedNoCompact: a batch that is refused does not compact; nor does one whose log is empty.
func TestP11_2RefusedNoCompact(t *testing.T) {
	d := made(t, roomy)
	s := opened(t, "new", d, api.Limits{Pairs: 1, Weight: 100, Log: 0})
	wantErrno(t, "first", s.Commit(batch("a=1")), api.OK)
	wantRefused(t, "full", d, s, batch("b=2"), api.ErrStoreFull)
	wantRefused(t, "key", d, s, []api.Change{{}}, api.ErrStoreKey)
	wantErrno(t, "Compact", s.Compact(), api.OK)
	wantWrites(t, "Compact", d, 4)
	wantErrno(t, "behind it", s.Commit(batch("a=2")), api.OK)
	wantWrites(t, "behind it", d, 5)
	wantLog(t, "behind it", s, 1, len(logOf("a=2")))
}

// TestP11_2Last: at the last number no batch compacts, the log grows; one below it does.
func TestP11_2Last(t *testing.T) {
	l := api.Limits{Pairs: 9, Weight: 1000, Log: 0}
	d := made(t, roomy, file("snap", snapOf(last-1, "a=1")), file("log."+decimal(last-1), logOf("b=2")))
	s := opened(t, "below", d, l)
	wantErrno(t, "below", s.Commit(batch("c=3")), api.OK)
	wantFiles(t, "below", d, file("snap", snapOf(last, "a=1 b=2")), file("log.4611686018427387904", logOf("c=3")))
	wantLog(t, "below", s, last, len(logOf("c=3")))
	for i, line := range []string{"d=4", "-a", "e=5"} {
		wantErrno(t, line, s.Commit(batch(line)), api.OK)
		wantFiles(t, line, d, file("snap", snapOf(last, "a=1 b=2")), file("log.4611686018427387904", logOf([]string{"c=3", "d=4", "-a", "e=5"}[:i+2]...)))
	}
	wantErrno(t, "Compact", s.Compact(), api.ErrStoreFull)
	wantPairs(t, "last", s, "b=2 c=3 d=4 e=5")
	wantPairs(t, "last", opened(t, "again", d, l), "b=2 c=3 d=4 e=5")
	wantLog(t, "last", opened(t, "again", d, l), last, s.LogSize())
}

// wantOff asks that a store is off for ever, and tells what it told before.
func wantOff(t *testing.T, what string, d *disk.Disk, s *store.Store, pairs string, number uint64, size int, e api.Errno) {
	t.Helper()
	for range 2 {
		wantRefused(t, what, d, s, nil, api.ErrStoreOff)
		wantRefused(t, what, d, s, batch("a=9 -b"), api.ErrStoreOff)
		files, writes := told(d), d.Writes()
		wantErrno(t, what+", Compact", s.Compact(), api.ErrStoreOff)
		if told(d) != files || d.Writes() != writes {
			t.Errorf("%s: it has written", what)
		}
		wantPairs(t, what, s, pairs)
		wantLog(t, what, s, number, size)
		wantErrno(t, what+", Err", s.Err(), e)
		d.Arm(0, 0)
		d.On()
	}
}

// TestP11_2Off: a refused write of a batch ends the store, whichever one it is; the pairs are as they were.
func TestP11_2Off(t *testing.T) {
	l := api.Limits{Pairs: 5, Weight: 200, Log: 0}
	first := len(logOf("a=1 b=2"))
	for n := 1; n <= 4; n++ {
		for _, keep := range []int{-1, 0, 1, 10, 26, 1000} {
			d := made(t, roomy)
			s := opened(t, "new", d, l)
			wantErrno(t, "first", s.Commit(batch("a=1 b=2")), api.OK)
			d.Arm(n, keep)
			wantErrno(t, "torn", s.Commit(batch("a=3 -b c=4 c=5 d=6 -d -x")), api.ErrStoreOff)
			if n == 4 {
				wantOff(t, "behind its compaction", d, s, "a=1 b=2", 1, 0, api.ErrDiskOff)
			} else {
				wantOff(t, "in its compaction", d, s, "a=1 b=2", 0, first, api.ErrDiskOff)
			}
			want := "a=1 b=2"
			if n == 4 && keep == 1000 {
				want = "a=3 c=5"
			}
			wantPairs(t, "anew", opened(t, "anew", d, l), want)
		}
	}
}

// TestP11_2NoRoom: a disk without room ends the store, too.
func TestP11_2NoRoom(t *testing.T) {
	first, next := logOf("a=1"), logOf("a=2")
	d := made(t, len(first)+len(next)-1)
	s := opened(t, "new", d, wide)
	wantErrno(t, "first", s.Commit(batch("a=1")), api.OK)
	wantErrno(t, "next", s.Commit(batch("a=2")), api.ErrStoreOff)
	wantFiles(t, "next", d, file("log.0", first))
	wantOff(t, "next", d, s, "a=1", 0, len(first), api.ErrDiskFull)
	snap := snapOf(1, "a=1")
	for _, c := range []struct {
		room   int
		number uint64
		e      api.Errno
	}{{len(first) + len(snap) - 1, 0, api.ErrDiskFull}, {len(first) + len(snap), 1, api.OK}} {
		d := made(t, c.room)
		s := opened(t, "new", d, api.Limits{Pairs: 9, Weight: 1000, Log: 0})
		wantErrno(t, "first", s.Commit(batch("a=1")), api.OK)
		e := s.Commit(batch("a=2"))
		if (e == api.OK) != (c.e == api.OK) || s.Err() != c.e || s.Number() != c.number {
			t.Errorf("room %d: %d, Err %d, number %d", c.room, e, s.Err(), s.Number())
		}
	}
	// The compaction has room, the batch behind it has not.
	big := "a=" + strings.Repeat("x", 200)
	d = made(t, len(snapOf(1, "a=1"))+len(logOf(big))-1)
	s = opened(t, "new", d, api.Limits{Pairs: 9, Weight: 1000, Log: 0})
	wantErrno(t, "first", s.Commit(batch("a=1")), api.OK)
	wantErrno(t, "big", s.Commit(batch(big)), api.ErrStoreOff)
	wantFiles(t, "big", d, file("snap", snapOf(1, "a=1")))
	wantOff(t, "big", d, s, "a=1", 1, 0, api.ErrDiskFull)
}
