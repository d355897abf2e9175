package disk_test

import (
	"math"
	"testing"

	"postern/api"
	"postern/disk"
)

// wantTorn asks that a call is torn: the power goes, and the files are those; behind it nothing is armed any more.
func wantTorn(t *testing.T, what string, d *disk.Disk, call func(d *disk.Disk) api.Errno, want string) {
	t.Helper()
	writes := d.Writes()
	if d.Off() {
		t.Errorf("%s: off ahead of it", what)
	}
	wantErrno(t, what, call(d), api.ErrDiskOff)
	if !d.Off() {
		t.Errorf("%s: the power is on", what)
	}
	wantFiles(t, what+", off", d, want)
	wantWrites(t, what, d, writes+1)
	wantErrno(t, what+": again", call(d), api.ErrDiskOff)
	wantFiles(t, what+", again", d, want)
	wantWrites(t, what+", again", d, writes+1)
	d.On()
	if d.Off() {
		t.Errorf("%s: the power is off", what)
	}
	wantFiles(t, what+", on", d, want)
	for range 5 {
		wantErrno(t, what+": armed still", d.Append("z", nil), api.OK)
	}
	wantWrites(t, what+", on", d, writes+6)
}

func two(t *testing.T) *disk.Disk {
	t.Helper()
	return loaded(t, 100, file("a", "one"), file("b", "two"))
}

func TestP9_4Append(t *testing.T) {
	for _, x := range []struct {
		keep int
		want string
	}{
		{math.MinInt, ""}, {-1, ""}, {0, ""}, {1, "h"}, {2, "he"}, {4, "hell"}, {5, "hello"}, {6, "hello"}, {1 << 40, "hello"}, {math.MaxInt, "hello"},
	} {
		call := func(name, b string) func(d *disk.Disk) api.Errno {
			return func(d *disk.Disk) api.Errno { return d.Append(name, []byte(b)) }
		}
		d := two(t)
		d.Arm(1, x.keep)
		wantTorn(t, "to a file", d, call("a", "hello"), "a:one"+x.want+" b:two")
		d = two(t)
		d.Arm(1, x.keep)
		made, none := "", ""
		if x.keep > 0 {
			made, none = " c:"+x.want, " c:"
		}
		wantTorn(t, "to a new file", d, call("c", "hello"), "a:one b:two"+made)
		d = two(t)
		d.Arm(1, x.keep)
		wantTorn(t, "of no bytes to a file", d, call("b", ""), "a:one b:two")
		d = two(t)
		d.Arm(1, x.keep)
		wantTorn(t, "of no bytes to a new file", d, call("c", ""), "a:one b:two"+none)
	}
}

func TestP9_4Others(t *testing.T) {
	for _, x := range []struct {
		what string
		call func(d *disk.Disk) api.Errno
		want string
	}{
		{"Cut", func(d *disk.Disk) api.Errno { return d.Cut("a", 1) }, "a:o b:two"},
		{"Cut to nothing", func(d *disk.Disk) api.Errno { return d.Cut("b", 0) }, "a:one b:"},
		{"Cut by nothing", func(d *disk.Disk) api.Errno { return d.Cut("b", 3) }, "a:one b:two"},
		{"Rename", func(d *disk.Disk) api.Errno { return d.Rename("a", "c") }, "b:two c:one"},
		{"Rename upon another", func(d *disk.Disk) api.Errno { return d.Rename("a", "b") }, "b:one"},
		{"Rename upon itself", func(d *disk.Disk) api.Errno { return d.Rename("a", "a") }, "a:one b:two"},
		{"Remove", func(d *disk.Disk) api.Errno { return d.Remove("b") }, "a:one"},
	} {
		for _, keep := range someNumbers() {
			d := two(t)
			d.Arm(1, keep)
			want := "a:one b:two"
			if keep > 0 {
				want = x.want
			}
			wantTorn(t, x.what, d, x.call, want)
		}
	}
}

// TestP9_4Count: the n-th write from then on, of whatever kind, and none ahead of it.
func TestP9_4Count(t *testing.T) {
	steps := []func(d *disk.Disk) api.Errno{
		func(d *disk.Disk) api.Errno { return d.Append("c", []byte("x")) },
		func(d *disk.Disk) api.Errno { return d.Append("c", nil) },
		func(d *disk.Disk) api.Errno { return d.Rename("c", "c") },
		func(d *disk.Disk) api.Errno { return d.Cut("a", 3) },
		func(d *disk.Disk) api.Errno { return d.Rename("c", "d") },
		func(d *disk.Disk) api.Errno { return d.Remove("d") },
	}
	for ahead := range 4 {
		for n := 1; n <= 20; n++ {
			d := two(t)
			for i := range ahead {
				wantErrno(t, "ahead", steps[i](d), api.OK)
			}
			d.Arm(n, 1)
			for i := 1; i < n; i++ {
				wantErrno(t, "ahead of the torn one", steps[(ahead+i-1)%len(steps)](d), api.OK)
			}
			wantErrno(t, "the torn one", steps[(ahead+n-1)%len(steps)](d), api.ErrDiskOff)
			wantWrites(t, "the torn one", d, ahead+n)
		}
	}
}

// TestP9_4Refused: refused calls, and those that only look, are no writes.
func TestP9_4Refused(t *testing.T) {
	d := loaded(t, 10, append(manyFiles(63), file("a", "1234567890"))...)
	d.Arm(3, 0)
	look := func() {
		t.Helper()
		writes := d.Writes()
		for _, e := range []api.Errno{
			d.Append("A", nil), d.Append("new", nil), d.Append("a", []byte("x")), d.Cut("", 0), d.Cut("new", 0), d.Cut("a", 11), d.Cut("a", -1),
			d.Rename("new", "a"), d.Rename("a", "A"), d.Rename("A", "a"), d.Remove("new"), d.Remove("A"),
		} {
			if e == api.OK || e == api.ErrDiskOff {
				t.Errorf("refused: %d", e)
			}
		}
		wantRead(t, d, "a", "1234567890", api.OK)
		wantRead(t, d, "new", "", api.ErrDiskNone)
		d.Names()
		d.Files()
		d.Room()
		d.On()
		wantWrites(t, "refused", d, writes)
	}
	look()
	wantErrno(t, "the first", d.Append("a", nil), api.OK)
	look()
	wantErrno(t, "the second", d.Cut("a", 10), api.OK)
	look()
	wantErrno(t, "the third", d.Remove("a"), api.ErrDiskOff)
	wantWrites(t, "all", d, 3)
	d.On()
	look()
}

// TestP9_4Full: an Append that there is no room for is refused, though less of it would be kept.
func TestP9_4Full(t *testing.T) {
	d := loaded(t, 5, file("a", "one"))
	d.Arm(1, 1)
	wantErrno(t, "no room for all", d.Append("a", []byte("xyz")), api.ErrDiskFull)
	wantErrno(t, "just room", d.Append("a", []byte("xy")), api.ErrDiskOff)
	wantFiles(t, "torn", d, "a:onex")
	d.On()
	wantErrno(t, "what the torn one left", d.Append("a", []byte("y")), api.OK)
	wantErrno(t, "no more", d.Append("a", []byte("z")), api.ErrDiskFull)
}

// TestP9_4Again: whatever was armed is not any more.
func TestP9_4Again(t *testing.T) {
	put := func(d *disk.Disk) api.Errno { return d.Append("a", []byte("xyz")) }
	for _, n := range []int{0, -1, math.MinInt} {
		d := two(t)
		d.Arm(1, 1)
		d.Arm(n, 1)
		for range 9 {
			wantErrno(t, "not armed", put(d), api.OK)
		}
	}
	d := two(t)
	d.Arm(1, 1)
	d.Arm(2, 2)
	wantErrno(t, "armed anew", put(d), api.OK)
	wantTorn(t, "armed anew", d, put, "a:onexyzxy b:two")
	d = two(t)
	d.Arm(3, 1)
	wantErrno(t, "two writes left", put(d), api.OK)
	d.Arm(3, 0)
	wantErrno(t, "three writes left", put(d), api.OK)
	wantErrno(t, "two writes left", put(d), api.OK)
	wantTorn(t, "armed anew", d, put, "a:onexyzxyzxyz b:two")
	d = two(t)
	d.Arm(math.MaxInt, 1)
	for range 20 {
		wantErrno(t, "armed far off", put(d), api.OK)
	}
}

// TestP9_4WhileOff: it may be armed while the power is off; what is refused meanwhile does not count.
func TestP9_4WhileOff(t *testing.T) {
	put := func(d *disk.Disk) api.Errno { return d.Append("a", []byte("xyz")) }
	d := two(t)
	d.Arm(1, 0)
	wantErrno(t, "torn", put(d), api.ErrDiskOff)
	d.Arm(2, 1)
	for range 5 {
		wantErrno(t, "off", put(d), api.ErrDiskOff)
	}
	wantWrites(t, "off", d, 1)
	d.On()
	d.On()
	wantErrno(t, "the first", put(d), api.OK)
	d.On()
	wantTorn(t, "the second", d, put, "a:onexyzx b:two")
	d.Arm(1, 0)
	put(d)
	d.Arm(1, 0)
	d.Arm(0, 0)
	d.On()
	wantErrno(t, "armed and not", put(d), api.OK)
}

func TestP9_5Power(t *testing.T) {
	d := made(t, 100)
	if d.Off() {
		t.Error("off at its beginning")
	}
	d.On()
	wantWrites(t, "On", d, 0)
	for i := 1; i <= 5; i++ {
		d.Append("a", []byte("x"))
		d.Arm(1, 0)
		d.Append("a", []byte("x"))
		wantWrites(t, "torn, nothing kept", d, 4*i-2)
		wantRead(t, d, "a", "", api.ErrDiskOff)
		if !d.Off() || !d.Off() {
			t.Error("on behind a torn write")
		}
		d.On()
		if d.Off() {
			t.Error("off behind On")
		}
		d.Arm(1, 1)
		d.Append("a", []byte("yz"))
		d.On()
		d.Arm(1, 1)
		d.Cut("a", 2*i)
		d.On()
		wantWrites(t, "torn", d, 4*i)
		if n, e := d.Size("a"); n != 2*i || e != api.OK {
			t.Errorf("%d bytes, %d", n, e)
		}
	}
	wantRead(t, d, "a", "xyxyxyxyxy", api.OK)
}

// TestExamples: the chapter's examples.
func TestExamples(t *testing.T) {
	d := made(t, 10)
	wantErrno(t, "Append a", d.Append("a", []byte("hello")), api.OK)
	wantErrno(t, "Append b", d.Append("b", nil), api.OK)
	wantNames(t, d, "a", "b")
	wantErrno(t, "worlds", d.Append("a", []byte("worlds")), api.ErrDiskFull)
	wantErrno(t, "Append A", d.Append("A", []byte("x")), api.ErrDiskName)
	wantRead(t, d, "", "", api.ErrDiskName)
	wantRead(t, d, "c", "", api.ErrDiskNone)
	wantErrno(t, "Cut a 6", d.Cut("a", 6), api.ErrDiskCut)
	wantErrno(t, "Cut a -1", d.Cut("a", -1), api.ErrDiskCut)
	wantErrno(t, "Cut a 4", d.Cut("a", 4), api.OK)
	wantWrites(t, "1", d, 3)
	wantErrno(t, "Rename a b", d.Rename("a", "b"), api.OK)
	wantNames(t, d, "b")
	wantRead(t, d, "b", "hell", api.OK)
	wantErrno(t, "Rename b b", d.Rename("b", "b"), api.OK)
	wantErrno(t, "Rename a c", d.Rename("a", "c"), api.ErrDiskNone)
	wantWrites(t, "2", d, 5)
	d.Arm(2, 3)
	wantErrno(t, "Append x 1", d.Append("x", []byte("1")), api.OK)
	wantErrno(t, "Append x 234567", d.Append("x", []byte("234567")), api.ErrDiskFull)
	wantErrno(t, "Append x 2345", d.Append("x", []byte("2345")), api.ErrDiskOff)
	wantRead(t, d, "x", "", api.ErrDiskOff)
	wantFiles(t, "3", d, "b:hell x:1234")
	d.On()
	wantRead(t, d, "x", "1234", api.OK)
	wantErrno(t, "Append x 5", d.Append("x", []byte("5")), api.OK)
	wantWrites(t, "3", d, 8)
	d.Arm(1, 0)
	wantErrno(t, "Remove x", d.Remove("x"), api.ErrDiskOff)
	d.On()
	wantFiles(t, "4", d, "b:hell x:12345")
	d.Arm(1, 1)
	wantErrno(t, "Rename x b", d.Rename("x", "b"), api.ErrDiskOff)
	d.On()
	wantFiles(t, "4", d, "b:12345")
	d.Arm(1, 0)
	wantErrno(t, "Append n", d.Append("n", []byte("z")), api.ErrDiskOff)
	d.On()
	wantNames(t, d, "b")
}
