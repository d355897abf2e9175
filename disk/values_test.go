package disk_test

import (
	"math"
	"slices"
	"strings"
	"testing"

	"postern/api"
	"postern/disk"
)

func made(t *testing.T, room int) *disk.Disk {
	t.Helper()
	d, e := disk.New(room)
	if e != api.OK || d == nil {
		t.Fatalf("New(%d): %d", room, e)
	}
	return d
}

func loaded(t *testing.T, room int, files ...api.File) *disk.Disk {
	t.Helper()
	d, e := disk.Load(files, room)
	if e != api.OK || d == nil {
		t.Fatalf("Load into %d: %d", room, e)
	}
	return d
}

func file(name, text string) api.File { return api.File{Name: name, Bytes: []byte(text)} }

// manyFiles tells n files without bytes: f00, f01 and so on.
func manyFiles(n int) []api.File {
	var l []api.File
	for i := range n {
		l = append(l, api.File{Name: "f" + string(rune('0'+i/10)) + string(rune('0'+i%10))})
	}
	return l
}

func wantErrno(t *testing.T, what string, got, want api.Errno) {
	t.Helper()
	if got != want {
		t.Errorf("%s: %d, not %d", what, got, want)
	}
}

// text tells files in one line: each a name, a colon and its bytes, with blanks between.
func text(files []api.File) string {
	var l []string
	for _, f := range files {
		l = append(l, f.Name+":"+string(f.Bytes))
	}
	return strings.Join(l, " ")
}

// wantFiles asks for the files as text tells them.
func wantFiles(t *testing.T, what string, d *disk.Disk, want string) {
	t.Helper()
	if got := text(d.Files()); got != want {
		t.Errorf("%s: %.200q, not %.200q", what, got, want)
	}
}

func wantWrites(t *testing.T, what string, d *disk.Disk, want int) {
	t.Helper()
	if got := d.Writes(); got != want {
		t.Errorf("%s: %d writes, not %d", what, got, want)
	}
}

func wantRead(t *testing.T, d *disk.Disk, name, want string, wantError api.Errno) {
	t.Helper()
	b, e := d.Read(name)
	if string(b) != want || e != wantError {
		t.Errorf("Read(%q): %q, %d, not %q, %d", name, b, e, want, wantError)
	}
	n, e := d.Size(name)
	if n != len(want) || e != wantError {
		t.Errorf("Size(%q): %d, %d, not %d, %d", name, n, e, len(want), wantError)
	}
}

func wantNames(t *testing.T, d *disk.Disk, want ...string) {
	t.Helper()
	if l, e := d.Names(); e != api.OK || !slices.Equal(l, want) {
		t.Errorf("Names: %q, %d, not %q", l, e, want)
	}
}

// goodNames and badNames are the edges of what a name may be.
func goodNames() []string {
	l := []string{".", "-", "_", "..", "a", "z", "0", "9", "log.0", "snap.new", "-._", strings.Repeat("x", 63), strings.Repeat("9", 64)}
	slices.Sort(l)
	return l
}

func badNames() []string {
	return []string{
		"", "A", "Z", "/", ":", "`", "{", "@", "[", ",", " ", "a ", " a", "a b", "a/b", "aB", "Ba", "a\x00", "\x00", "\x7f", "\xff", "a\x80", "ä", "aé", "\xc3", "a\n", "a*", "~", "^", "ſ", "０",
		strings.Repeat("x", 65), strings.Repeat("x", 64) + "X", strings.Repeat("ä", 32), strings.Repeat("x", 1<<16),
	}
}

// someNumbers are numbers of which some are far off.
func someNumbers() []int {
	return []int{math.MinInt, math.MinInt + 1, -1 << 32, -2, -1, 0, 1, 2, 3, 4, 5, 6, 1 << 32, math.MaxInt - 1, math.MaxInt}
}
