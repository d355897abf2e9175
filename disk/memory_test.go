package disk_test

import (
	"bytes"
	"math"
	"math/rand"
	"testing"

	"postern/api"
	"postern/disk"
)

func spoil(b []byte) {
	b = b[:cap(b)]
	for i := range b {
		b[i] = '!'
	}
}

func spoilFiles(l []api.File) {
	for i := range l {
		spoil(l[i].Bytes)
		l[i] = file("spoilt", "!")
	}
}

// wantApart asks that two disks are alike now, and that writes of the one are not seen in the other.
func wantApart(t *testing.T, what string, a, b *disk.Disk) {
	t.Helper()
	want := text(a.Files())
	wantFiles(t, what+": alike", b, want)
	for _, x := range [][2]*disk.Disk{{a, b}, {b, a}} {
		one, other := x[0], x[1]
		want, writes, off := text(other.Files()), other.Writes(), other.Off()
		one.On()
		one.Arm(4, 1)
		for _, f := range one.Files() {
			one.Append(f.Name, []byte("x"))
			one.Cut(f.Name, 1)
			one.Append(f.Name, []byte("yz"))
			one.Rename(f.Name, "renamed")
			one.On()
		}
		one.Append("new", nil)
		one.Arm(1, 1)
		one.Remove("renamed")
		wantFiles(t, what+": behind writes of another disk", other, want)
		wantWrites(t, what, other, writes)
		if other.Off() != off {
			t.Errorf("%s: off %v behind calls of another disk", what, other.Off())
		}
	}
}

func TestP9_6Apart(t *testing.T) {
	d := loaded(t, 100, file("a", "one"), file("b", ""), file("c", "three"))
	d.Append("a", []byte("more"))
	d.Cut("c", 2)
	c := loaded(t, d.Room(), d.Files()...)
	wantFresh(t, "loaded", c, 100, "a:onemore b: c:th")
	wantApart(t, "loaded", d, c)
	files := []api.File{file("a", "one"), file("b", "two")}
	wantApart(t, "two of the same files", loaded(t, 50, files...), loaded(t, 50, files...))
	wantApart(t, "two new ones", made(t, 50), made(t, 50))
}

// TestP9_6Fresh: a disk that is loaded of one whose power is off, or that is armed, is on, and not armed.
func TestP9_6Fresh(t *testing.T) {
	d := two(t)
	d.Arm(1, 2)
	d.Append("c", []byte("xyz"))
	d.Arm(1, 0)
	c := loaded(t, d.Room(), d.Files()...)
	wantFresh(t, "of one that is off", c, 100, "a:one b:two c:xy")
	wantErrno(t, "its first write", c.Append("c", []byte("z")), api.OK)
	if !d.Off() {
		t.Error("the power came back by a Load")
	}
	wantWrites(t, "the other one", d, 1)
	d.On()
	wantErrno(t, "armed still", d.Append("c", []byte("z")), api.ErrDiskOff)
}

// TestP9_7HandedIn: what is handed in is not changed, nor is the room behind it, and it is not kept.
func TestP9_7HandedIn(t *testing.T) {
	room := []byte("hello, world")
	d := made(t, 100)
	d.Append("a", room[:5])
	d.Append("a", room[5:7])
	d.Append("b", room[7:9])
	d.Arm(1, 3)
	d.Append("b", room[7:12])
	d.On()
	if string(room) != "hello, world" {
		t.Errorf("became %q", room)
	}
	spoil(room)
	wantFiles(t, "behind a change of what was handed in", d, "a:hello,  b:wowor")
	text := []byte("one, two")
	files := append(make([]api.File, 0, 4), api.File{Name: "a", Bytes: text[:3]}, api.File{Name: "b", Bytes: text[5:]})
	d = loaded(t, 20, files...)
	d.Append("a", []byte("+"))
	d.Cut("b", 1)
	d.Append("b", []byte("wice"))
	if string(text) != "one, two" || files[0].Name != "a" || files[1].Name != "b" || len(files[:3][2].Name) != 0 {
		t.Errorf("became %q, %v", text, files)
	}
	spoilFiles(files)
	wantFiles(t, "behind a change of the files", d, "a:one+ b:twice")
}

// TestP9_7Told: what is told is the caller's own, and no two answers share memory.
func TestP9_7Told(t *testing.T) {
	d := two(t)
	d.Append("b", []byte("+"))
	d.Cut("b", 3)
	for range 3 {
		b, _ := d.Read("a")
		other, _ := d.Read("a")
		spoil(b)
		if string(other) != "one" {
			t.Errorf("another answer: %q", other)
		}
		files := d.Files()
		more := d.Files()
		spoilFiles(files)
		if text(more) != "a:one b:two" {
			t.Errorf("another answer: %q", text(more))
		}
		spoil(more[0].Bytes)
		if string(more[1].Bytes) != "two" {
			t.Errorf("another file of one answer: %q", more[1].Bytes)
		}
		names, _ := d.Names()
		names[0], names[1] = "spoilt", "spoilt"
		wantNames(t, d, "a", "b")
		wantFiles(t, "behind a change of answers", d, "a:one b:two")
	}
	b, _ := d.Read("a")
	files := d.Files()
	d.Append("a", []byte("more"))
	d.Cut("a", 0)
	d.Append("a", []byte("xyz"))
	d.Rename("b", "a")
	if string(b) != "one" || text(files) != "a:one b:two" {
		t.Errorf("answers changed behind writes: %q, %q", b, text(files))
	}
}

// TestP9_7Place: the same memory with other contents is something else.
func TestP9_7Place(t *testing.T) {
	d := made(t, 100)
	b := []byte("abc")
	d.Append("a", b)
	copy(b, "def")
	d.Append("a", b)
	copy(b, "ghi")
	wantRead(t, d, "a", "abcdef", api.OK)
	files := []api.File{file("a", "x")}
	wantFresh(t, "one", loaded(t, 9, files...), 9, "a:x")
	files[0].Name = "A"
	wantNoDisk(t, "the same list", files, 9, api.ErrDiskFile)
}

// TestP9_7Nil: nil and empty are one.
func TestP9_7Nil(t *testing.T) {
	for _, b := range [][]byte{nil, {}} {
		d := loaded(t, 10, api.File{Name: "a", Bytes: b})
		wantErrno(t, "Append", d.Append("b", b), api.OK)
		wantErrno(t, "Append", d.Append("a", b), api.OK)
		wantErrno(t, "Cut", d.Cut("b", 0), api.OK)
		wantRead(t, d, "b", "", api.OK)
		wantFiles(t, "no bytes", d, "a: b:")
	}
}

// TestP9_7Ends: no call panics, and none is left with the lock held, whatever is handed in.
func TestP9_7Ends(t *testing.T) {
	r := rand.New(rand.NewSource(7))
	names := append(badNames(), goodNames()...)
	d := made(t, 50)
	for range 20000 {
		name, other := names[r.Intn(len(names))], names[r.Intn(len(names))]
		n, k := someNumbers()[r.Intn(15)], someNumbers()[r.Intn(15)]
		d.Append(name, bytes.Repeat([]byte("x"), r.Intn(9)))
		d.Cut(name, n)
		d.Rename(name, other)
		d.Read(name)
		d.Size(other)
		d.Remove(other)
		d.Arm(n, k)
		if r.Intn(4) == 0 {
			d.On()
		}
		if c, e := disk.Load(d.Files(), n); (e == api.OK) != (c != nil) {
			t.Fatalf("Load into %d: %d", n, e)
		}
	}
	if d.Writes() < 100 || d.Room() != 50 {
		t.Errorf("%d writes, room %d", d.Writes(), d.Room())
	}
	disk.Load(make([]api.File, 1<<16), math.MaxInt)
	disk.Load(make([]api.File, 1<<16), 10)
}
