package wal_test

import (
	"bytes"
	"strings"
	"testing"

	"postern/api"
	"postern/disk"
	"postern/wal"
)

// wantOff asks that a log is off for ever, and has written nothing more.
func wantOff(t *testing.T, what string, d *disk.Disk, l *wal.Log) {
	t.Helper()
	files, writes, name, size := told(d), d.Writes(), l.Name(), l.Size()
	for _, b := range [][]byte{nil, {}, []byte("x"), make([]byte, api.MaxFrame), make([]byte, api.MaxFrame+1)} {
		wantErrno(t, what, l.Append(b), api.ErrWalOff)
	}
	wantFiles(t, what, d, files)
	wantWrites(t, what, d, writes)
	wantLog(t, what, l, name, size)
}

// TestP10_2Append: each record's frame stands behind the others, by one write.
func TestP10_2Append(t *testing.T) {
	d := made(t, roomy)
	l := wantOpen(t, "new", d, "log")
	for i, s := range someRecords() {
		wantErrno(t, s, l.Append([]byte(s)), api.OK)
		text := framesOf(someRecords()[:i+1]...)
		wantFiles(t, s, d, "log:"+text)
		wantWrites(t, s, d, i+1)
		wantLog(t, s, l, "log", len(text))
	}
	wantOpen(t, "again", d, "log", someRecords()...)
	wantWrites(t, "again", d, len(someRecords()))
}

// TestP10_2Behind: records stand behind those that Open has told, however often the log is opened anew.
func TestP10_2Behind(t *testing.T) {
	for _, text := range []string{"", "\xc9", framesOf("a"), framesOf("a", "") + "\xc9\x00", framesOf("a", "", "b")} {
		want, _, _ := wantedOf(text)
		d := holding(t, text)
		for _, s := range []string{"x", "", "yz"} {
			l := wantOpen(t, text, d, "log", want...)
			wantErrno(t, text, l.Append([]byte(s)), api.OK)
			wantErrno(t, text, l.Append([]byte(s+s)), api.OK)
			want = append(want, s, s+s)
			wantFiles(t, text, d, "log:"+framesOf(want...))
		}
		wantOpen(t, text, d, "log", want...)
	}
}

func TestP10_2Long(t *testing.T) {
	d := made(t, 1<<27)
	l := wantOpen(t, "new", d, "log")
	tooLong := make([]byte, 1<<25)
	for _, n := range []int{16777217, api.MaxFrame + 1, api.MaxFrame + 256, 1 << 25} {
		wantErrno(t, "too long", l.Append(tooLong[:n]), api.ErrWalLong)
		wantLog(t, "too long", l, "log", 0)
	}
	wantFiles(t, "too long", d, "")
	wantWrites(t, "too long", d, 0)
	wantErrno(t, "behind it", l.Append([]byte("a")), api.OK)
	longest := strings.Repeat("long", api.MaxFrame/4)
	wantErrno(t, "the longest", l.Append([]byte(longest)), api.OK)
	wantErrno(t, "too long again", l.Append(tooLong), api.ErrWalLong)
	wantErrno(t, "nearly the longest", l.Append([]byte(longest[1:])), api.OK)
	wantLog(t, "long", l, "log", 14+api.MaxFrame+13+api.MaxFrame+12)
	wantWrites(t, "long", d, 3)
	wantOpen(t, "long", d, "log", "a", longest, longest[1:])
}

// TestP10_2LongFirst: what is too long is told ahead of the disk's errors, and is none of them.
func TestP10_2LongFirst(t *testing.T) {
	d := made(t, 100)
	l, other := wantOpen(t, "new", d, "log"), wantOpen(t, "new", d, "other")
	tooLong := make([]byte, api.MaxFrame+1)
	wantErrno(t, "no room for it either", l.Append(tooLong), api.ErrWalLong)
	wantErrno(t, "behind it", l.Append([]byte("a")), api.OK)
	d.Arm(1, 1)
	wantErrno(t, "no write", l.Append(tooLong), api.ErrWalLong)
	wantErrno(t, "torn", other.Append(nil), api.ErrDiskOff)
	wantErrno(t, "off", l.Append(tooLong), api.ErrWalLong)
	d.On()
	wantErrno(t, "on", l.Append([]byte("b")), api.OK)
	wantOpen(t, "on", d, "log", "a", "b")
}

// TestP10_2Full: just so much room, and one byte less; then the log is off, though there is room again.
func TestP10_2Full(t *testing.T) {
	for _, s := range []string{"", "a", "a longer one"} {
		d := made(t, 20+len(frameOf(s)), file("log", frameOf("a")), file("other", "123456"))
		l := wantOpen(t, s, d, "log", "a")
		wantErrno(t, s, l.Append([]byte(s)), api.OK)
		wantOpen(t, s, d, "log", "a", s)
		d = made(t, 19+len(frameOf(s)), file("log", frameOf("a")), file("other", "123456"))
		l = wantOpen(t, s, d, "log", "a")
		wantErrno(t, s, l.Append([]byte(s)), api.ErrDiskFull)
		wantFiles(t, s, d, "log:"+frameOf("a")+" other:123456")
		wantLog(t, s, l, "log", 14)
		wantOff(t, s, d, l)
		wantErrno(t, s, d.Remove("other"), api.OK)
		wantOff(t, s+", room again", d, l)
		l = wantOpen(t, s+", anew", d, "log", "a")
		wantErrno(t, s, l.Append([]byte(s)), api.OK)
		wantOpen(t, s+", anew", d, "log", "a", s)
	}
}

// TestP10_2Off: the power has gone by another write.
func TestP10_2Off(t *testing.T) {
	d := made(t, roomy, file("log", frameOf("a")), file("other", ""))
	l, quiet := wantOpen(t, "on", d, "log", "a"), wantOpen(t, "on", d, "log", "a")
	d.Arm(1, 0)
	wantErrno(t, "torn", d.Remove("other"), api.ErrDiskOff)
	wantErrno(t, "off", l.Append([]byte("b")), api.ErrDiskOff)
	wantOff(t, "off", d, l)
	d.On()
	wantOff(t, "on", d, l)
	wantFiles(t, "on", d, "log:"+frameOf("a")+" other:")
	wantErrno(t, "one that met no error", quiet.Append([]byte("b")), api.OK)
	wantOpen(t, "on", d, "log", "a", "b")
}

// TestP10_2Torn: a torn Append is the disk's error, whatever is kept of it; then the log is off, the power on or not.
func TestP10_2Torn(t *testing.T) {
	for _, ahead := range [][]string{nil, {"a", ""}} {
		for _, s := range []string{"", "b", "some more bytes"} {
			frame := frameOf(s)
			for _, keep := range keeps(len(frame)) {
				d := made(t, roomy)
				l := wantOpen(t, s, d, "log")
				for _, s := range ahead {
					wantErrno(t, s, l.Append([]byte(s)), api.OK)
				}
				d.Arm(1, keep)
				wantErrno(t, s, l.Append([]byte(s)), api.ErrDiskOff)
				wantLog(t, s, l, "log", len(framesOf(ahead...)))
				wantWrites(t, s, d, len(ahead)+1)
				wantOff(t, s, d, l)
				d.On()
				wantOff(t, s, d, l)
				kept := framesOf(ahead...) + frame[:min(max(keep, 0), len(frame))]
				if kept != "" {
					kept = "log:" + kept
				}
				wantFiles(t, s, d, kept)
			}
		}
	}
}

// TestP10_3Size: behind Open, and behind each Append that was OK; no other call changes it.
func TestP10_3Size(t *testing.T) {
	d := made(t, 100, file("log", framesOf("ab", "")+headOf(20)+"torn"))
	l := wantOpen(t, "cut", d, "log", "ab", "")
	want := 15 + 13
	for range 2 {
		wantLog(t, "Open", l, "log", want)
		wantErrno(t, "too long", l.Append(make([]byte, api.MaxFrame+1)), api.ErrWalLong)
		wantLog(t, "too long", l, "log", want)
		wantErrno(t, "OK", l.Append([]byte("abc")), api.OK)
		want += 16
		wantLog(t, "OK", l, "log", want)
		if n, e := d.Size("log"); n != want || e != api.OK {
			t.Errorf("the file has %d bytes, %d", n, e)
		}
	}
	wantErrno(t, "full", l.Append(make([]byte, 100)), api.ErrDiskFull)
	wantLog(t, "full", l, "log", want)
	wantErrno(t, "off", l.Append(nil), api.ErrWalOff)
	wantLog(t, "off", l, "log", want)
	l = wantOpen(t, "anew", d, "log", "ab", "", "abc", "abc")
	d.Arm(1, 100)
	wantErrno(t, "torn, all of it kept", l.Append([]byte("x")), api.ErrDiskOff)
	wantLog(t, "torn, all of it kept", l, "log", want)
	d.On()
	wantLog(t, "on", l, "log", want)
	wantOpen(t, "on", d, "log", "ab", "", "abc", "abc", "x")
}

func TestP10_3Name(t *testing.T) {
	d := made(t, roomy)
	for i, name := range goodNames() {
		l := wantOpen(t, name, d, name)
		wantErrno(t, name, l.Append([]byte(name)), api.OK)
		wantLog(t, name, l, name, 13+len(name))
		if b, e := d.Read(name); string(b) != frameOf(name) || e != api.OK {
			t.Errorf("%s: %q, %d", name, b, e)
		}
		if l, _ := d.Names(); len(l) != i+1 {
			t.Errorf("%s: files %q", name, l)
		}
	}
	for _, name := range goodNames() {
		wantOpen(t, name, d, name, name)
	}
}

// TestExamples: the chapter's examples.
func TestExamples(t *testing.T) {
	d := made(t, roomy)
	l := wantOpen(t, "1", d, "log")
	wantFiles(t, "1", d, "")
	wantErrno(t, "a", l.Append([]byte("a")), api.OK)
	wantLog(t, "a", l, "log", 14)
	wantErrno(t, "none", l.Append(nil), api.OK)
	wantLog(t, "none", l, "log", 27)
	l = wantOpen(t, "1", d, "log", "a", "")
	d.Arm(1, 5)
	wantErrno(t, "bc", l.Append([]byte("bc")), api.ErrDiskOff)
	wantErrno(t, "x", l.Append([]byte("x")), api.ErrWalOff)
	d.On()
	wantFiles(t, "2", d, "log:"+framesOf("a", "")+frameOf("bc")[:5])
	l = wantOpen(t, "2", d, "log", "a", "")
	wantFiles(t, "2", d, "log:"+framesOf("a", ""))
	d.Arm(1, 15)
	wantErrno(t, "bc", l.Append([]byte("bc")), api.ErrDiskOff)
	d.On()
	wantOpen(t, "2", d, "log", "a", "", "bc")
	wantNoLog(t, "3", holding(t, "\x00"), "log", api.ErrWalDamage)
	d = holding(t, "\xc9\x00\x00")
	wantOpen(t, "3", d, "log")
	wantFiles(t, "3", d, "log:")
	wantNoLog(t, "3", holding(t, strings.Replace(framesOf("first", "second"), "first", "fIrst", 1)), "log", api.ErrWalDamage)
	two := framesOf("first", "second")
	d = holding(t, two[:len(two)-1])
	wantOpen(t, "3", d, "log", "first")
	wantFiles(t, "3", d, "log:"+frameOf("first"))
	wantNoLog(t, "4", d, "A", api.ErrDiskName)
	l = wantOpen(t, "4", d, "log", "first")
	wantErrno(t, "4", l.Append(bytes.Repeat([]byte("x"), 16777217)), api.ErrWalLong)
	wantErrno(t, "4", l.Append([]byte("a")), api.OK)
}
