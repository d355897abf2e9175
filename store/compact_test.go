package store_test

import (
	"strconv"
	"strings"
	"testing"

	"postern/api"
)

// TestP11_3Compact: three writes; two, where the log has no file.
func TestP11_3Compact(t *testing.T) {
	d := made(t, roomy)
	s := opened(t, "new", d, wide)
	wantErrno(t, "of none", s.Compact(), api.OK)
	wantFiles(t, "of none", d, file("snap", snapOf(1, "")))
	wantWrites(t, "of none", d, 2)
	wantLog(t, "of none", s, 1, 0)
	wantErrno(t, "b", s.Commit(batch("b=2 a=1")), api.OK)
	wantErrno(t, "aa", s.Commit(batch("aa= \xff=3 \x00=4 -x")), api.OK)
	wantFiles(t, "committed", d, file("snap", snapOf(1, "")), file("log.1", logOf("b=2 a=1", "aa= \xff=3 \x00=4 -x")))
	wantErrno(t, "of some", s.Compact(), api.OK)
	wantFiles(t, "of some", d, file("snap", snapOf(2, "\x00=4 a=1 aa= b=2 \xff=3")))
	wantWrites(t, "of some", d, 7)
	wantLog(t, "of some", s, 2, 0)
	wantPairs(t, "of some", s, "\x00=4 a=1 aa= b=2 \xff=3")
	wantErrno(t, "again", s.Compact(), api.OK)
	wantFiles(t, "again", d, file("snap", snapOf(3, "\x00=4 a=1 aa= b=2 \xff=3")))
	wantWrites(t, "again", d, 9)
	wantErrno(t, "behind it", s.Commit(batch("-a")), api.OK)
	wantFiles(t, "behind it", d, file("snap", snapOf(3, "\x00=4 a=1 aa= b=2 \xff=3")), file("log.3", logOf("-a")))
	wantPairs(t, "anew", opened(t, "anew", d, wide), "\x00=4 aa= b=2 \xff=3")
}

// TestP11_3NoBytes: a log whose file has no bytes is removed, too.
func TestP11_3NoBytes(t *testing.T) {
	d := made(t, roomy, file("log.0", "\xc9"), file("other", "x"))
	s := opened(t, "torn", d, wide)
	wantFiles(t, "torn", d, file("log.0", ""), file("other", "x"))
	wantErrno(t, "Compact", s.Compact(), api.OK)
	wantFiles(t, "Compact", d, file("snap", snapOf(1, "")), file("other", "x"))
	wantWrites(t, "Compact", d, 4)
}

func TestP11_3Last(t *testing.T) {
	d := made(t, roomy, file("snap", snapOf(last-1, "a=1")), file("log."+decimal(last-1), logOf("b=2")))
	s := opened(t, "below", d, wide)
	wantErrno(t, "below", s.Compact(), api.OK)
	wantLog(t, "below", s, last, 0)
	for range 2 {
		wantErrno(t, "last", s.Compact(), api.ErrStoreFull)
		wantFiles(t, "last", d, file("snap", snapOf(last, "a=1 b=2")))
		wantWrites(t, "last", d, 3)
		wantLog(t, "last", s, last, 0)
		wantErrno(t, "last", s.Err(), api.OK)
		wantPairs(t, "last", s, "a=1 b=2")
	}
	d.Arm(1, 0)
	wantErrno(t, "torn", s.Commit(batch("a=")), api.ErrStoreOff)
	wantErrno(t, "off ahead of full", s.Compact(), api.ErrStoreOff)
}

// TestP11_3Torn: each of the three writes is torn, done or not.
func TestP11_3Torn(t *testing.T) {
	snap, log, next := snapOf(5, "a=1"), logOf("b=2"), snapOf(6, "a=1 b=2")
	for _, c := range []struct {
		n, keep int
		want    []api.File
	}{
		{1, -1, []api.File{file("snap", snap), file("log.5", log)}},
		{1, 0, []api.File{file("snap", snap), file("log.5", log)}},
		{1, 1, []api.File{file("snap", snap), file("log.5", log), file("snap.new", next[:1])}},
		{1, len(next) - 1, []api.File{file("snap", snap), file("log.5", log), file("snap.new", next[:len(next)-1])}},
		{1, len(next), []api.File{file("snap", snap), file("log.5", log), file("snap.new", next)}},
		{2, 0, []api.File{file("snap", snap), file("log.5", log), file("snap.new", next)}},
		{2, 1, []api.File{file("snap", next), file("log.5", log)}},
		{3, 0, []api.File{file("snap", next), file("log.5", log)}},
		{3, 1, []api.File{file("snap", next)}},
	} {
		what := "write " + strconv.Itoa(c.n) + ", keep " + strconv.Itoa(c.keep)
		d := made(t, roomy, file("snap", snap), file("log.5", log))
		s := opened(t, what, d, wide)
		d.Arm(c.n, c.keep)
		wantErrno(t, what, s.Compact(), api.ErrStoreOff)
		wantFiles(t, what, d, c.want...)
		wantWrites(t, what, d, c.n)
		wantOff(t, what, d, s, "a=1 b=2", 5, len(log), api.ErrDiskOff)
		s = opened(t, what, d, wide)
		wantPairs(t, what, s, "a=1 b=2")
		if string(c.want[0].Bytes) == snap {
			wantFiles(t, what, d, file("snap", snap), file("log.5", log))
		} else {
			wantFiles(t, what, d, file("snap", next))
		}
		wantErrno(t, what+", anew", s.Compact(), api.OK)
		wantPairs(t, what, opened(t, what, d, wide), "a=1 b=2")
	}
}

// TestP11_3NoRoom: no room for the snapshot, or for one more file; nothing is written, and the store is off.
func TestP11_3NoRoom(t *testing.T) {
	log, snap := logOf("a=1"), snapOf(1, "a=1")
	d := made(t, len(log)+len(snap), file("log.0", log))
	wantErrno(t, "just", opened(t, "just", d, wide).Compact(), api.OK)
	wantFiles(t, "just", d, file("snap", snap))
	d = made(t, len(log)+len(snap)-1, file("log.0", log))
	s := opened(t, "a byte less", d, wide)
	wantErrno(t, "a byte less", s.Compact(), api.ErrStoreOff)
	wantFiles(t, "a byte less", d, file("log.0", log))
	wantOff(t, "a byte less", d, s, "a=1", 0, len(log), api.ErrDiskFull)
	files := []api.File{file("log.0", log)}
	for i := range 63 {
		files = append(files, file("f"+strconv.Itoa(i), ""))
	}
	d = made(t, roomy, files...)
	s = opened(t, "too many files", d, wide)
	wantErrno(t, "too many files", s.Compact(), api.ErrStoreOff)
	wantFiles(t, "too many files", d, files...)
	wantOff(t, "too many files", d, s, "a=1", 0, len(log), api.ErrDiskFull)
	d = made(t, roomy, files[:63]...)
	wantErrno(t, "one file fewer", opened(t, "one file fewer", d, wide).Compact(), api.OK)
}

// TestP11_3Dark: the power has gone by another's write.
func TestP11_3Dark(t *testing.T) {
	d := made(t, roomy, file("log.0", logOf("a=1")), file("other", ""))
	s, quiet := opened(t, "on", d, wide), opened(t, "on", d, wide)
	d.Arm(1, 0)
	wantErrno(t, "torn", d.Remove("other"), api.ErrDiskOff)
	wantErrno(t, "told with the power off", s.Err(), api.OK)
	wantErrno(t, "off", s.Compact(), api.ErrStoreOff)
	wantOff(t, "off", d, s, "a=1", 0, len(logOf("a=1")), api.ErrDiskOff)
	wantFiles(t, "off", d, file("log.0", logOf("a=1")), file("other", ""))
	wantErrno(t, "one that met no error", quiet.Compact(), api.OK)
	wantFiles(t, "on", d, file("snap", snapOf(1, "a=1")), file("other", ""))
}

// TestP11_3Heavy: a snapshot of heavy pairs, and of as many as may be.
func TestP11_3Heavy(t *testing.T) {
	key, value := strings.Repeat("k", 255), make([]byte, 262144)
	var l []api.Change
	for i := range 60 {
		l = append(l, api.Change{Key: append([]byte(key), byte(i)), Value: value})
	}
	d := made(t, 1<<27)
	s := opened(t, "heavy", d, api.Limits{Pairs: 65536, Weight: 1 << 26, Log: 1 << 26})
	wantErrno(t, "heavy", s.Commit(l), api.OK)
	for n := range 4 {
		var many []api.Change
		for i := range 16384 - 15 {
			many = append(many, api.Change{Key: []byte{byte(n), byte(i >> 8), byte(i)}})
		}
		wantErrno(t, "many", s.Commit(many), api.OK)
	}
	wantErrno(t, "one more", s.Commit(batch("one=1")), api.ErrStoreFull)
	wantErrno(t, "Compact", s.Compact(), api.OK)
	weight := 60*(256+262144) + (65536-60)*3
	if n, _ := d.Size("snap"); n != 25+65536*21+weight {
		t.Errorf("the snapshot has %d bytes", n)
	}
	s = opened(t, "anew", d, api.Limits{Pairs: 65536, Weight: 1 << 26})
	if s.Len() != 65536 || s.Weight() != weight+65536*16 {
		t.Errorf("anew: %d, %d", s.Len(), s.Weight())
	}
}
