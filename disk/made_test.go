package disk_test

import (
	"math"
	"math/rand"
	"slices"
	"testing"

	"postern/api"
	"postern/disk"
)

func wantFresh(t *testing.T, what string, d *disk.Disk, room int, files string) {
	t.Helper()
	wantFiles(t, what, d, files)
	wantWrites(t, what, d, 0)
	if d.Off() || d.Room() != room {
		t.Errorf("%s: off %v, room %d", what, d.Off(), d.Room())
	}
}

func TestP9_1New(t *testing.T) {
	for _, room := range []int{1, 2, 10, 1 << 25, api.MaxRoom - 1, api.MaxRoom, 268435456} {
		d := made(t, room)
		wantFresh(t, "New", d, room, "")
		wantNames(t, d)
		wantErrno(t, "the first write", d.Append("a", []byte("x")), api.OK)
	}
	for _, room := range []int{math.MinInt, -1 << 32, -1, 0, api.MaxRoom + 1, 268435457, 1<<32 + 1, math.MaxInt} {
		if d, e := disk.New(room); d != nil || e != api.ErrDiskRoom {
			t.Errorf("New(%d): %v, %d", room, d != nil, e)
		}
	}
}

func TestP9_1Load(t *testing.T) {
	for _, x := range []struct {
		what  string
		room  int
		files []api.File
		want  string
	}{
		{"nil", 10, nil, ""},
		{"none", 1, []api.File{}, ""},
		{"one without bytes", 1, []api.File{{Name: "a"}}, "a:"},
		{"one that fills the room", 3, []api.File{file("a", "xyz")}, "a:xyz"},
		{"some in another order", 10, []api.File{file("c", "3"), file("a", "11"), file("b", "")}, "a:11 b: c:3"},
		{"beginnings", 10, []api.File{file("ab", "1"), file("a.", "2"), file("a", "3"), file("a-b", "4")}, "a:3 a-b:4 a.:2 ab:1"},
		{"some that fill the room together", 6, []api.File{file("a", "123"), file("b", "45"), file("c", "6"), file("d", "")}, "a:123 b:45 c:6 d:"},
	} {
		d := loaded(t, x.room, x.files...)
		wantFresh(t, x.what, d, x.room, x.want)
		wantErrno(t, x.what+": the next write", d.Append("z", nil), api.OK)
	}
}

func TestP9_1LoadNames(t *testing.T) {
	for _, name := range goodNames() {
		wantFresh(t, name, loaded(t, 5, file(name, "x")), 5, name+":x")
	}
	for _, name := range badNames() {
		for _, files := range [][]api.File{{file(name, "x")}, {file("a", ""), file(name, "")}, {file(name, ""), file("a", "")}} {
			wantNoDisk(t, name, files, 5, api.ErrDiskFile)
		}
	}
}

func wantNoDisk(t *testing.T, what string, files []api.File, room int, want api.Errno) {
	t.Helper()
	if d, e := disk.Load(files, room); d != nil || e != want {
		t.Errorf("%.40q: %v, %d, not %d", what, d != nil, e, want)
	}
}

func TestP9_1NoLoad(t *testing.T) {
	wantNoDisk(t, "one name twice", []api.File{file("a", "x"), file("a", "x")}, 10, api.ErrDiskFile)
	wantNoDisk(t, "twice, not beside each other", []api.File{file("a", ""), file("b", ""), file("a", "x")}, 10, api.ErrDiskFile)
	wantNoDisk(t, "11 bytes", []api.File{file("a", "12345678901")}, 10, api.ErrDiskFile)
	wantNoDisk(t, "11 bytes in two", []api.File{file("a", "123456"), file("b", "78901")}, 10, api.ErrDiskFile)
	wantNoDisk(t, "11 bytes, the last of them elsewhere", []api.File{file("a", "1234567890"), file("b", ""), file("c", "1")}, 10, api.ErrDiskFile)
	wantNoDisk(t, "65 files", manyFiles(65), 10, api.ErrDiskFile)
	wantNoDisk(t, "a file twice among 65", append(manyFiles(64), file("f00", "")), 10, api.ErrDiskFile)
	for _, room := range []int{math.MinInt, -1, 0, api.MaxRoom + 1, math.MaxInt} {
		for _, files := range [][]api.File{nil, {file("a", "x")}, {file("A", "x")}, manyFiles(65)} {
			wantNoDisk(t, "no room", files, room, api.ErrDiskRoom)
		}
	}
}

// TestP9_1Most: a disk of as many files as may be, whatever order they came in.
func TestP9_1Most(t *testing.T) {
	files := manyFiles(api.MaxFiles)
	want := text(files)
	r := rand.New(rand.NewSource(1))
	for range 20 {
		r.Shuffle(len(files), func(i, j int) { files[i], files[j] = files[j], files[i] })
		wantFresh(t, "64 files", loaded(t, 1, files...), 1, want)
	}
}

// TestP9_1Greatest: the greatest room is one, to the last byte.
func TestP9_1Greatest(t *testing.T) {
	part := make([]byte, api.MaxRoom/4)
	files := []api.File{{Name: "a", Bytes: part}, {Name: "b", Bytes: part}, {Name: "c", Bytes: part}}
	d := loaded(t, api.MaxRoom, files...)
	wantErrno(t, "a byte too many", d.Append("a", make([]byte, len(part)+1)), api.ErrDiskFull)
	wantErrno(t, "the last quarter", d.Append("d", part), api.OK)
	wantErrno(t, "one more byte", d.Append("d", []byte("x")), api.ErrDiskFull)
	wantErrno(t, "none", d.Append("d", nil), api.OK)
	wantNoDisk(t, "a byte more than the room", append(slices.Clone(files), api.File{Name: "d", Bytes: make([]byte, len(part)+1)}), api.MaxRoom, api.ErrDiskFile)
}
