package wal_test

import (
	"encoding/binary"
	"hash/crc32"
	"math"
	"slices"
	"strings"
	"testing"

	"postern/api"
	"postern/disk"
	"postern/wal"
)

const roomy = 1 << 20

func made(t *testing.T, room int, files ...api.File) *disk.Disk {
	t.Helper()
	d, e := disk.Load(files, room)
	if e != api.OK {
		t.Fatalf("Load into %d: %d", room, e)
	}
	return d
}

func file(name, text string) api.File { return api.File{Name: name, Bytes: []byte(text)} }

// holding tells a disk with this file alone, named log.
func holding(t *testing.T, text string) *disk.Disk {
	t.Helper()
	return made(t, max(roomy, 2*len(text)), file("log", text))
}

func wantErrno(t *testing.T, what string, got, want api.Errno) {
	t.Helper()
	if got != want {
		t.Errorf("%s: %d, not %d", what, got, want)
	}
}

func texts(records [][]byte) []string {
	var l []string
	for _, b := range records {
		l = append(l, string(b))
	}
	return l
}

// wantOpen asks that a log is opened with these records.
func wantOpen(t *testing.T, what string, d *disk.Disk, name string, want ...string) *wal.Log {
	t.Helper()
	l, records, e := wal.Open(d, name)
	if l == nil || e != api.OK {
		t.Fatalf("%s: Open: %d", what, e)
	}
	if !slices.Equal(texts(records), want) {
		t.Fatalf("%s: records %.300q, not %.300q", what, texts(records), want)
	}
	wantLog(t, what, l, name, len(framesOf(want...)))
	return l
}

func wantLog(t *testing.T, what string, l *wal.Log, name string, size int) {
	t.Helper()
	if l.Name() != name || l.Size() != size {
		t.Errorf("%s: %q of %d bytes, not %q of %d", what, l.Name(), l.Size(), name, size)
	}
}

// wantNoLog asks that Open is refused, and that it has written nothing.
func wantNoLog(t *testing.T, what string, d *disk.Disk, name string, want api.Errno) {
	t.Helper()
	files, writes := told(d), d.Writes()
	if l, records, e := wal.Open(d, name); l != nil || len(records) != 0 || e != want {
		t.Errorf("%s: Open: a log %v, records %.300q, %d, not %d", what, l != nil, texts(records), e, want)
	}
	if told(d) != files || d.Writes() != writes {
		t.Errorf("%s: %d writes, files %.300q, not %.300q", what, d.Writes()-writes, told(d), files)
	}
}

// told tells a disk's files in one line.
func told(d *disk.Disk) string {
	var l []string
	for _, f := range d.Files() {
		l = append(l, f.Name+":"+string(f.Bytes))
	}
	return strings.Join(l, " ")
}

func wantFiles(t *testing.T, what string, d *disk.Disk, want string) {
	t.Helper()
	if got := told(d); got != want {
		t.Errorf("%s: files %.300q, not %.300q", what, got, want)
	}
}

func wantWrites(t *testing.T, what string, d *disk.Disk, want int) {
	t.Helper()
	if got := d.Writes(); got != want {
		t.Errorf("%s: %d writes, not %d", what, got, want)
	}
}

func laid(n uint32) string { return string(binary.BigEndian.AppendUint32(nil, n)) }

func sumOf(s string) string { return laid(crc32.ChecksumIEEE([]byte(s))) }

// headOf tells a head with a good sum, of whatever count.
func headOf(count uint32) string {
	head := "\xc9" + laid(count)
	return head + sumOf(head)
}

func frameOf(s string) string { return headOf(uint32(len(s))) + s + sumOf(s) }

func framesOf(l ...string) string {
	var b strings.Builder
	for _, s := range l {
		b.WriteString(frameOf(s))
	}
	return b.String()
}

// wantedOf says by P10.1's words what a file's records are and where the last one ends; or that it is damaged.
func wantedOf(file string) (records []string, end int, damaged bool) {
	for rest := file; rest != ""; rest = file[end:] {
		if rest[0] != 0xc9 {
			return nil, 0, true
		}
		if len(rest) < 9 {
			break
		}
		if rest[5:9] != sumOf(rest[:5]) {
			return nil, 0, true
		}
		count := int(binary.BigEndian.Uint32([]byte(rest[1:5])))
		if count > 16777216 {
			return nil, 0, true
		}
		if len(rest) < count+13 {
			break
		}
		body := rest[9 : 9+count]
		if rest[9+count:13+count] != sumOf(body) {
			return nil, 0, true
		}
		records, end = append(records, body), end+13+count
	}
	return records, end, false
}

// someRecords are rows of bytes of which some look like frames, or like parts of them.
func someRecords() []string {
	return []string{
		"a", "", "bc", "\x00", "\xc9", "\xc9\xc9\xc9", "", "", "\xff\x00\x80", "ä\n", strings.Repeat("x", 255), strings.Repeat("y", 256), frameOf(""), frameOf("inner"), framesOf("a", "b"),
		headOf(0), headOf(1 << 24), frameOf("inner")[:12], "\xc9\x00\x00\x00\x00", strings.Repeat("\x00", 13), strings.Repeat("\xc9", 100),
	}
}

// keeps are edges of how much is kept of a torn write that has so many bytes.
func keeps(size int) []int {
	return []int{math.MinInt, -1, 0, 1, 2, 5, 8, 9, 10, size - 5, size - 4, size - 1, size, size + 1, math.MaxInt}
}

func badNames() []string {
	return []string{"", "A", "a b", "a/b", "a\x00", "\xff", "ä", "log ", strings.Repeat("x", 65), strings.Repeat("x", 1<<16)}
}

func goodNames() []string {
	return []string{"a", "0", ".", "..", "-", "_", "log.0", "log.4611686018427387904", strings.Repeat("x", 64)}
}
