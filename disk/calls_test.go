package disk_test

import (
	"math"
	"slices"
	"strings"
	"testing"

	"postern/api"
	"postern/disk"
)

func TestP9_2Append(t *testing.T) {
	d := made(t, 10)
	for i, x := range []struct {
		name, b, want string
	}{
		{"b", "he", "b:he"},
		{"b", "llo", "b:hello"},
		{"a", "", "a: b:hello"},
		{"b", "", "a: b:hello"},
		{"c", "\x00\xff", "a: b:hello c:\x00\xff"},
		{"a", "xyz", "a:xyz b:hello c:\x00\xff"},
		{"a", "", "a:xyz b:hello c:\x00\xff"},
		{"d", "", "a:xyz b:hello c:\x00\xff d:"},
	} {
		wantErrno(t, x.name, d.Append(x.name, []byte(x.b)), api.OK)
		wantFiles(t, x.name, d, x.want)
		wantWrites(t, x.name, d, i+1)
	}
	wantErrno(t, "a byte in a full room", d.Append("a", []byte("x")), api.ErrDiskFull)
	wantErrno(t, "a new file's", d.Append("e", []byte("x")), api.ErrDiskFull)
	wantFiles(t, "a full room", d, "a:xyz b:hello c:\x00\xff d:")
	wantWrites(t, "a full room", d, 8)
}

// TestP9_2Room: what goes makes room, and no more than it had.
func TestP9_2Room(t *testing.T) {
	for _, x := range []struct {
		what string
		call func(d *disk.Disk) api.Errno
		left int
	}{
		{"nothing", func(d *disk.Disk) api.Errno { return api.OK }, 1},
		{"Cut by 2", func(d *disk.Disk) api.Errno { return d.Cut("a", 3) }, 3},
		{"Cut to nothing", func(d *disk.Disk) api.Errno { return d.Cut("a", 0) }, 6},
		{"Cut by nothing", func(d *disk.Disk) api.Errno { return d.Cut("a", 5) }, 1},
		{"Remove", func(d *disk.Disk) api.Errno { return d.Remove("b") }, 5},
		{"Rename to a new name", func(d *disk.Disk) api.Errno { return d.Rename("a", "x") }, 1},
		{"Rename to a shorter one's place", func(d *disk.Disk) api.Errno { return d.Rename("a", "b") }, 5},
		{"Rename to a longer one's place", func(d *disk.Disk) api.Errno { return d.Rename("b", "a") }, 6},
		{"Rename to itself", func(d *disk.Disk) api.Errno { return d.Rename("a", "a") }, 1},
	} {
		for _, name := range []string{"a", "b", "n"} {
			d := loaded(t, 10, file("a", "hello"), file("b", "four"))
			wantErrno(t, x.what, x.call(d), api.OK)
			wantErrno(t, x.what+": one more than is left", d.Append(name, make([]byte, x.left+1)), api.ErrDiskFull)
			wantErrno(t, x.what+": what is left", d.Append(name, make([]byte, x.left)), api.OK)
			wantErrno(t, x.what+": one more", d.Append(name, make([]byte, 1)), api.ErrDiskFull)
		}
	}
}

func TestP9_2MaxFiles(t *testing.T) {
	d := made(t, 1000)
	for i, f := range manyFiles(api.MaxFiles) {
		wantErrno(t, f.Name, d.Append(f.Name, make([]byte, i%3)), api.OK)
	}
	for _, b := range [][]byte{nil, {}, {1}, make([]byte, 1001)} {
		wantErrno(t, "the 65th", d.Append("g", b), api.ErrDiskFull)
	}
	wantErrno(t, "one of them", d.Append("f63", []byte("x")), api.OK)
	wantErrno(t, "another name", d.Rename("f00", "g"), api.OK)
	wantErrno(t, "the old one", d.Append("f00", nil), api.ErrDiskFull)
	wantErrno(t, "upon another", d.Rename("g", "f01"), api.OK)
	wantErrno(t, "the 64th again", d.Append("h", nil), api.OK)
	wantErrno(t, "the 65th again", d.Append("f00", nil), api.ErrDiskFull)
	wantErrno(t, "away", d.Remove("f63"), api.OK)
	wantErrno(t, "in its place", d.Append("f00", nil), api.OK)
	wantErrno(t, "none", d.Append("f63", nil), api.ErrDiskFull)
	wantWrites(t, "all", d, 64+6)
}

func TestP9_2Cut(t *testing.T) {
	d := loaded(t, 10, file("a", "hello"), file("b", ""), file("c", "x"))
	for _, x := range []struct {
		name string
		size int
		want api.Errno
	}{
		{"a", 6, api.ErrDiskCut}, {"a", -1, api.ErrDiskCut}, {"a", math.MinInt, api.ErrDiskCut}, {"a", math.MaxInt, api.ErrDiskCut}, {"a", 1 << 32, api.ErrDiskCut},
		{"b", 1, api.ErrDiskCut}, {"b", -1, api.ErrDiskCut},
		{"d", 0, api.ErrDiskNone}, {"d", -1, api.ErrDiskNone}, {"d", 1, api.ErrDiskNone},
		{"A", 0, api.ErrDiskName}, {"", -1, api.ErrDiskName},
	} {
		wantErrno(t, x.name, d.Cut(x.name, x.size), x.want)
	}
	wantFiles(t, "refused", d, "a:hello b: c:x")
	wantWrites(t, "refused", d, 0)
	for i, x := range []struct {
		name string
		size int
		want string
	}{
		{"a", 5, "a:hello b: c:x"},
		{"a", 4, "a:hell b: c:x"},
		{"b", 0, "a:hell b: c:x"},
		{"a", 1, "a:h b: c:x"},
		{"c", 0, "a:h b: c:"},
		{"a", 0, "a: b: c:"},
	} {
		wantErrno(t, x.name, d.Cut(x.name, x.size), api.OK)
		wantFiles(t, x.name, d, x.want)
		wantWrites(t, x.name, d, i+1)
	}
	wantErrno(t, "behind a cut", d.Append("a", []byte("ola")), api.OK)
	wantRead(t, d, "a", "ola", api.OK)
}

func TestP9_2Rename(t *testing.T) {
	for _, x := range []struct {
		from, to, want string
		e              api.Errno
	}{
		{"a", "c", "b:two c:one", api.OK},
		{"a", "b", "b:one", api.OK},
		{"b", "a", "a:two", api.OK},
		{"a", "a", "a:one b:two", api.OK},
		{"b", "0", "0:two a:one", api.OK},
		{"c", "a", "a:one b:two", api.ErrDiskNone},
		{"c", "c", "a:one b:two", api.ErrDiskNone},
		{"c", "d", "a:one b:two", api.ErrDiskNone},
		{"a", "A", "a:one b:two", api.ErrDiskName},
		{"A", "a", "a:one b:two", api.ErrDiskName},
		{"A", "A", "a:one b:two", api.ErrDiskName},
		{"c", "C", "a:one b:two", api.ErrDiskName},
		{"", "a", "a:one b:two", api.ErrDiskName},
		{"a", "", "a:one b:two", api.ErrDiskName},
	} {
		d := loaded(t, 10, file("a", "one"), file("b", "two"))
		wantErrno(t, x.from+" to "+x.to, d.Rename(x.from, x.to), x.e)
		wantFiles(t, x.from+" to "+x.to, d, x.want)
		writes := 0
		if x.e == api.OK {
			writes = 1
		}
		wantWrites(t, x.from+" to "+x.to, d, writes)
	}
}

// TestP9_2Apart: what was renamed has nothing to do with its old name any more.
func TestP9_2Apart(t *testing.T) {
	d := loaded(t, 100, file("a", "one"))
	d.Rename("a", "b")
	d.Append("a", []byte("new"))
	d.Append("b", []byte("+"))
	d.Append("a", []byte("-"))
	d.Cut("b", 2)
	d.Append("b", []byte("ly"))
	wantFiles(t, "two", d, "a:new- b:only")
}

func TestP9_2Remove(t *testing.T) {
	d := loaded(t, 10, file("a", "one"), file("b", ""), file("c", "three"))
	wantErrno(t, "no such file", d.Remove("d"), api.ErrDiskNone)
	wantErrno(t, "no name", d.Remove(""), api.ErrDiskName)
	wantErrno(t, "a name", d.Remove("A"), api.ErrDiskName)
	wantFiles(t, "refused", d, "a:one b: c:three")
	wantWrites(t, "refused", d, 0)
	wantErrno(t, "c", d.Remove("c"), api.OK)
	wantErrno(t, "b", d.Remove("b"), api.OK)
	wantErrno(t, "b again", d.Remove("b"), api.ErrDiskNone)
	wantFiles(t, "b, c", d, "a:one")
	wantWrites(t, "b, c", d, 2)
	wantErrno(t, "a new c", d.Append("c", nil), api.OK)
	wantFiles(t, "a new c", d, "a:one c:")
}

// calls tells what each call answers of a name.
func calls(d *disk.Disk, name string) map[string]api.Errno {
	_, read := d.Read(name)
	_, size := d.Size(name)
	return map[string]api.Errno{
		"Append": d.Append(name, []byte("x")), "Append of much": d.Append(name, make([]byte, 1000)), "Cut": d.Cut(name, 0), "Cut below": d.Cut(name, -1),
		"Rename to": d.Rename("a", name), "Rename of": d.Rename(name, "a"), "Rename of none": d.Rename("none", name), "Remove": d.Remove(name), "Read": read, "Size": size,
	}
}

func TestP9_2Names(t *testing.T) {
	for _, name := range badNames() {
		d := loaded(t, 10, file("a", "one"))
		for call, e := range calls(d, name) {
			wantErrno(t, call+" of "+name, e, api.ErrDiskName)
		}
		wantFiles(t, name, d, "a:one")
		wantWrites(t, name, d, 0)
	}
	for _, name := range goodNames() {
		d := made(t, 10)
		wantErrno(t, name, d.Append(name, []byte("x")), api.OK)
		wantErrno(t, name, d.Cut(name, 1), api.OK)
		wantRead(t, d, name, "x", api.OK)
		wantErrno(t, name, d.Rename(name, "b"), api.OK)
		wantErrno(t, name, d.Rename("b", name), api.OK)
		wantNames(t, d, name)
		wantErrno(t, name, d.Remove(name), api.OK)
		wantNames(t, d)
	}
}

// TestP9_2Bytes: each byte, at each place of a name.
func TestP9_2Bytes(t *testing.T) {
	for c := range 256 {
		may := strings.IndexByte("abcdefghijklmnopqrstuvwxyz0123456789.-_", byte(c)) >= 0
		one := string([]byte{byte(c)})
		for _, name := range []string{one, one + "x", "x" + one, "x" + one + "x", strings.Repeat("x", 63) + one} {
			want := api.ErrDiskName
			if may {
				want = api.OK
			}
			d := made(t, 1)
			wantErrno(t, name, d.Append(name, nil), want)
			if _, e := d.Read(name); e != want {
				t.Errorf("Read(%q): %d", name, e)
			}
			if _, e := disk.Load([]api.File{{Name: name}}, 1); (e == api.OK) != may {
				t.Errorf("Load of %q: %d", name, e)
			}
		}
	}
}

// TestP9_2Off: with the power off each call is refused with ErrDiskOff, whatever else would be told.
func TestP9_2Off(t *testing.T) {
	d := loaded(t, 10, file("a", "one"))
	d.Arm(1, 0)
	wantErrno(t, "torn", d.Append("a", []byte("x")), api.ErrDiskOff)
	for _, name := range append(badNames(), "a", "b", "none") {
		for call, e := range calls(d, name) {
			wantErrno(t, call+" of "+name, e, api.ErrDiskOff)
		}
	}
	if l, e := d.Names(); len(l) != 0 || e != api.ErrDiskOff {
		t.Errorf("Names: %q, %d", l, e)
	}
	wantRead(t, d, "a", "", api.ErrDiskOff)
	wantFiles(t, "off", d, "a:one")
	wantWrites(t, "off", d, 1)
}

func TestP9_3Read(t *testing.T) {
	d := loaded(t, 10, file("a", "hello"), file("b", ""), file("c", "\x00\xff\x80"))
	wantRead(t, d, "a", "hello", api.OK)
	wantRead(t, d, "b", "", api.OK)
	wantRead(t, d, "c", "\x00\xff\x80", api.OK)
	wantRead(t, d, "d", "", api.ErrDiskNone)
	wantRead(t, d, "aa", "", api.ErrDiskNone)
	wantRead(t, d, "", "", api.ErrDiskName)
	wantRead(t, d, "A", "", api.ErrDiskName)
	wantNames(t, d, "a", "b", "c")
	wantWrites(t, "Read, Size, Names", d, 0)
}

// TestP9_3Order: names and files stand in order, byte by byte, however they came.
func TestP9_3Order(t *testing.T) {
	d := made(t, 100)
	want := []string{"-", ".", "0", "00", "1", "10", "2", "9", "_", "a", "a-", "a.", "a0", "a_", "aa", "ab", "b", "z"}
	for i := range want {
		d.Append(want[i*7%len(want)], []byte{byte('A' + i*7%len(want))})
	}
	wantNames(t, d, want...)
	files := d.Files()
	if len(files) != len(want) {
		t.Fatalf("%d files", len(files))
	}
	for i, f := range files {
		if f.Name != want[i] || string(f.Bytes) != string(rune('A'+i)) {
			t.Errorf("%d: %s: %q", i, f.Name, f.Bytes)
		}
	}
	d.Rename("-", "zz")
	d.Remove("a")
	d.Append("+", nil)
	wantNames(t, d, append(slices.DeleteFunc(want[1:], func(s string) bool { return s == "a" }), "zz")...)
}
