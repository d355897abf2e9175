package wal_test

import (
	"strings"
	"testing"

	"postern/api"
	"postern/wal"
)

// TestP10_1NoFile: a file that there is not is read as one without bytes, and is not made.
func TestP10_1NoFile(t *testing.T) {
	d := made(t, roomy)
	for _, name := range goodNames() {
		for range 2 {
			wantOpen(t, name, d, name)
		}
	}
	wantFiles(t, "no file", d, "")
	wantWrites(t, "no file", d, 0)
	d = made(t, 10, file("a", "\x00 no log"), file("logs", "x"), file("lo", "y"))
	wantOpen(t, "others", d, "log")
	wantFiles(t, "others", d, "a:\x00 no log lo:y logs:x")
	wantWrites(t, "others", d, 0)
}

// TestP10_1NoRoom: a log that has no file yet is opened though there could be none.
func TestP10_1NoRoom(t *testing.T) {
	var files []api.File
	for i := range api.MaxFiles {
		files = append(files, file("f"+string(rune('0'+i/10))+string(rune('0'+i%10)), "x"))
	}
	d := made(t, api.MaxFiles, files...)
	l := wantOpen(t, "no room", d, "log")
	wantErrno(t, "no room", l.Append(nil), api.ErrDiskFull)
}

func TestP10_1NoBytes(t *testing.T) {
	d := holding(t, "")
	wantOpen(t, "no bytes", d, "log")
	wantFiles(t, "no bytes", d, "log:")
	wantWrites(t, "no bytes", d, 0)
}

// TestP10_1Whole: files of whole frames are told, and nothing is written.
func TestP10_1Whole(t *testing.T) {
	all := someRecords()
	for from := range all {
		for to := from; to <= len(all); to++ {
			text := framesOf(all[from:to]...)
			d := holding(t, text)
			wantOpen(t, "whole", d, "log", all[from:to]...)
			wantFiles(t, "whole", d, "log:"+text)
			wantWrites(t, "whole", d, 0)
		}
	}
}

func TestP10_1Long(t *testing.T) {
	longest := strings.Repeat("body", api.MaxFrame/4)
	for _, l := range [][]string{
		{strings.Repeat("r", api.MaxRow), strings.Repeat("s", api.MaxRow+1), ""},
		{"ahead", longest, "behind"},
		{longest[1:], longest},
	} {
		text := framesOf(l...)
		d := holding(t, text)
		wantOpen(t, "long", d, "log", l...)
		wantWrites(t, "long", d, 0)
		d = holding(t, text[:len(text)-1])
		wantOpen(t, "long, a byte short", d, "log", l[:len(l)-1]...)
		wantFiles(t, "long, a byte short", d, "log:"+framesOf(l[:len(l)-1]...))
	}
	d := holding(t, framesOf("ahead")+frameOf(longest+"+"))
	wantNoLog(t, "a frame longer than may be", d, "log", api.ErrWalDamage)
}

// TestP10_1Many: a file of many frames: nothing grows with their number but the answer.
func TestP10_1Many(t *testing.T) {
	l := make([]string, 1<<17)
	for i := range l {
		l[i] = "0123456789"[:i%11]
	}
	text := framesOf(l...)
	wantOpen(t, "many", holding(t, text), "log", l...)
	wantOpen(t, "many, torn", holding(t, text+headOf(3)), "log", l...)
	wantNoLog(t, "many, damaged", holding(t, text+"x"), "log", api.ErrWalDamage)
}

// TestP10_1Torn: each beginning of a file of frames is a torn one: what is no whole frame is cut off by one write.
func TestP10_1Torn(t *testing.T) {
	all := someRecords()
	text := framesOf(all...)
	whole, end := 0, 0
	for n := range len(text) + 1 {
		if whole < len(all) && n == end+len(frameOf(all[whole])) {
			whole, end = whole+1, n
		}
		d := holding(t, text[:n])
		l := wantOpen(t, "a beginning", d, "log", all[:whole]...)
		wantFiles(t, "a beginning", d, "log:"+text[:end])
		writes := 0
		if n > end {
			writes = 1
		}
		wantWrites(t, "a beginning", d, writes)
		wantErrno(t, "behind a beginning", l.Append([]byte("next")), api.OK)
		wantFiles(t, "behind a beginning", d, "log:"+text[:end]+frameOf("next"))
	}
}

// TestP10_1Short: what is short ends it, whatever it would be with more bytes.
func TestP10_1Short(t *testing.T) {
	for _, short := range []string{
		"\xc9", "\xc9\x00\x00", "\xc9\xff\xff\xff\xff", "\xc9\xc9\xc9\xc9\xc9\xc9\xc9\xc9", "\xc9no head", headOf(1), headOf(1<<24-1) + "xyz", headOf(1 << 24),
		headOf(1<<24) + frameOf("inner"), headOf(4) + "body" + "\x00\x00\x00", headOf(30) + frameOf("inner"), headOf(0) + "\xff\xff\xff",
	} {
		for _, ahead := range [][]string{nil, {""}, {"a", "", "b"}} {
			d := holding(t, framesOf(ahead...)+short)
			wantOpen(t, short, d, "log", ahead...)
			wantFiles(t, short, d, "log:"+framesOf(ahead...))
			wantWrites(t, short, d, 1)
		}
	}
}

// TestP10_1Damage: what no torn write leaves, behind whole frames, and ahead of others.
func TestP10_1Damage(t *testing.T) {
	bent := []byte(headOf(3))
	bent[8] ^= 1
	for _, bad := range []string{
		"\x00", "x", "\xc8", "\x49", "\x00\x00\x00\x00\x00\x00\x00\x00\x00\x00\x00\x00\x00", string(bent), string(bent) + "abc" + sumOf("abc"), headOf(1<<24 + 1), headOf(1 << 31), headOf(1<<32 - 1), headOf(1<<32-13) + "xyz",
		headOf(3) + "abc" + sumOf("abd"), headOf(0) + "\x00\x00\x00\x01", headOf(3) + "abd" + sumOf("abc"), "\xc9\x00\x00\x00\x00\x00\x00\x00\x00", "\xc9no head at all",
	} {
		for _, ahead := range []string{"", frameOf(""), framesOf("a", "", "b")} {
			wantNoLog(t, bad, holding(t, ahead+bad), "log", api.ErrWalDamage)
		}
	}
	for _, bad := range []string{"\x00", string(bent), headOf(1<<24 + 1), headOf(3) + "abc" + sumOf("abd"), headOf(0) + "\x00\x00\x00\x01"} {
		for _, behind := range []string{frameOf("b"), "\xc9", headOf(7), "\x00"} {
			wantNoLog(t, bad+behind, holding(t, frameOf("a")+bad+behind), "log", api.ErrWalDamage)
		}
	}
}

func TestP10_1Names(t *testing.T) {
	d := made(t, roomy, file("log", frameOf("a")+"\xc9"))
	for _, name := range badNames() {
		wantNoLog(t, name, d, name, api.ErrDiskName)
	}
	d.Arm(1, 1)
	wantErrno(t, "torn", d.Remove("log"), api.ErrDiskOff)
	for _, name := range append(append(badNames(), goodNames()...), "log") {
		wantNoLog(t, name+", off", d, name, api.ErrDiskOff)
	}
}

func TestP10_1Off(t *testing.T) {
	for _, text := range []string{"", frameOf("a"), frameOf("a") + "\xc9", "\x00"} {
		d := made(t, roomy, file("log", text), file("other", ""))
		d.Arm(1, 0)
		wantErrno(t, "torn", d.Remove("other"), api.ErrDiskOff)
		wantNoLog(t, text, d, "log", api.ErrDiskOff)
	}
}

// TestP10_1OneWrite: Open writes once, if there is something to be cut off, and else not at all.
func TestP10_1OneWrite(t *testing.T) {
	for _, keep := range keeps(10) {
		d := holding(t, frameOf("a")+"\xc9")
		d.Arm(2, keep)
		l := wantOpen(t, "cut", d, "log", "a")
		wantErrno(t, "the second write", l.Append([]byte("b")), api.ErrDiskOff)
		d = holding(t, frameOf("a"))
		d.Arm(1, keep)
		l = wantOpen(t, "whole", d, "log", "a")
		wantErrno(t, "the first write", l.Append([]byte("b")), api.ErrDiskOff)
	}
}

// TestP10_1CutRefused: the disk's error of a cut is handed on; the cut is done or not, and the log is opened again as if it had not been.
func TestP10_1CutRefused(t *testing.T) {
	text, torn := framesOf("a", ""), headOf(2)+"b"
	for _, keep := range keeps(len(torn)) {
		d := holding(t, text+torn)
		d.Arm(1, keep)
		if l, records, e := wal.Open(d, "log"); l != nil || len(records) != 0 || e != api.ErrDiskOff {
			t.Errorf("keep %d: a log %v, %d records, %d", keep, l != nil, len(records), e)
		}
		left := text
		if keep < 1 {
			left += torn
		}
		wantFiles(t, "torn in Open", d, "log:"+left)
		wantWrites(t, "torn in Open", d, 1)
		wantNoLog(t, "off", d, "log", api.ErrDiskOff)
		d.On()
		l := wantOpen(t, "on", d, "log", "a", "")
		wantFiles(t, "on", d, "log:"+text)
		wantErrno(t, "on", l.Append([]byte("b")), api.OK)
	}
}
