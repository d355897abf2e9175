package store_test

import (
	"encoding/binary"
	"hash/crc32"
	"maps"
	"slices"
	"strconv"
	"strings"
	"testing"

	"postern/api"
	"postern/disk"
	"postern/store"
)

const (
	roomy = 1 << 20
	last  = uint64(4611686018427387904)
)

// wide are limits that no small test meets.
var wide = api.Limits{Pairs: 1000, Weight: 1 << 20, Log: 1 << 20}

func made(t *testing.T, room int, files ...api.File) *disk.Disk {
	t.Helper()
	d, e := disk.Load(files, room)
	if e != api.OK {
		t.Fatalf("Load into %d: %d", room, e)
	}
	return d
}

func file(name, text string) api.File { return api.File{Name: name, Bytes: []byte(text)} }

func wantErrno(t *testing.T, what string, got, want api.Errno) {
	t.Helper()
	if got != want {
		t.Errorf("%s: %d, not %d", what, got, want)
	}
}

// told tells a disk's files in one line.
func told(d *disk.Disk) string {
	var l []string
	for _, f := range d.Files() {
		l = append(l, f.Name+":"+string(f.Bytes))
	}
	return strings.Join(l, " ")
}

func wantFiles(t *testing.T, what string, d *disk.Disk, want ...api.File) {
	t.Helper()
	if got, w := told(d), told(made(t, api.MaxRoom, want...)); got != w {
		t.Errorf("%s: files %.600q, not %.600q", what, got, w)
	}
}

func wantWrites(t *testing.T, what string, d *disk.Disk, want int) {
	t.Helper()
	if got := d.Writes(); got != want {
		t.Errorf("%s: %d writes, not %d", what, got, want)
	}
}

func opened(t *testing.T, what string, d *disk.Disk, l api.Limits) *store.Store {
	t.Helper()
	s, e := store.Open(d, l)
	if s == nil || e != api.OK {
		t.Fatalf("%s: Open: %d", what, e)
	}
	return s
}

// wantNone asks that Open is refused.
func wantNone(t *testing.T, what string, d *disk.Disk, l api.Limits, want api.Errno) {
	t.Helper()
	if s, e := store.Open(d, l); s != nil || e != want {
		t.Errorf("%s: a store %v, %d, not %d", what, s != nil, e, want)
	}
}

// pairsOf tells a range's pairs in one line.
func pairsOf(s *store.Store, from, to string) string {
	var l []string
	for key, value := range s.Range([]byte(from), []byte(to)) {
		l = append(l, string(key)+"="+string(value))
	}
	return strings.Join(l, " ")
}

func wantPairs(t *testing.T, what string, s *store.Store, want string) {
	t.Helper()
	if got := pairsOf(s, "", ""); got != want {
		t.Errorf("%s: pairs %.300q, not %.300q", what, got, want)
	}
	n := 0
	if want != "" {
		n = len(strings.Split(want, " "))
	}
	if s.Len() != n {
		t.Errorf("%s: Len %d, not %d", what, s.Len(), n)
	}
	if weight := len(want) + 14*n + min(n, 1); s.Weight() != weight {
		t.Errorf("%s: Weight %d, not %d", what, s.Weight(), weight)
	}
}

func wantLog(t *testing.T, what string, s *store.Store, number uint64, size int) {
	t.Helper()
	if s.Number() != number || s.LogSize() != size {
		t.Errorf("%s: number %d, log of %d bytes; not %d, %d", what, s.Number(), s.LogSize(), number, size)
	}
}

// batch reads changes from a line: a=1 sets, -a takes away.
func batch(line string) []api.Change {
	var l []api.Change
	for _, word := range strings.Fields(line) {
		if key, gone := strings.CutPrefix(word, "-"); gone {
			l = append(l, api.Change{Key: []byte(key), Gone: true})
			continue
		}
		key, value, _ := strings.Cut(word, "=")
		l = append(l, api.Change{Key: []byte(key), Value: []byte(value)})
	}
	return l
}

func laid4(n int) string { return string(binary.BigEndian.AppendUint32(nil, uint32(n))) }

func laid8(n uint64) string { return string(binary.BigEndian.AppendUint64(nil, n)) }

func row(s string) string { return laid4(len(s)) + s }

func sumOf(s string) string {
	return string(binary.BigEndian.AppendUint32(nil, crc32.ChecksumIEEE([]byte(s))))
}

func frameOf(s string) string {
	head := "\xc9" + laid4(len(s))
	return head + sumOf(head) + s + sumOf(s)
}

// formOf tells a batch's form; so many changes are told.
func formOf(l []api.Change) string {
	var b strings.Builder
	b.WriteString(laid4(len(l)))
	for _, c := range l {
		flag := "\x00"
		if c.Gone {
			flag = "\x01"
		}
		b.WriteString(flag + row(string(c.Key)) + row(string(c.Value)))
	}
	return b.String()
}

// logOf tells a log's text of the batches of these lines.
func logOf(lines ...string) string {
	text := ""
	for _, line := range lines {
		text += frameOf(formOf(batch(line)))
	}
	return text
}

// snapOf tells a snapshot's text of the pairs of a line, in the order in which they stand there.
func snapOf(number uint64, line string) string {
	l := batch(line)
	return headOf(number, len(l)) + pairFrames(l)
}

func headOf(number uint64, count int) string { return frameOf(laid8(number) + laid4(count)) }

func pairFrames(l []api.Change) string {
	var b strings.Builder
	for _, c := range l {
		b.WriteString(frameOf(row(string(c.Key)) + row(string(c.Value))))
	}
	return b.String()
}

func decimal(n uint64) string { return strconv.FormatUint(n, 10) }

func sortedKeys(m map[string]string) []string { return slices.Sorted(maps.Keys(m)) }

func spoil(b []byte) {
	b = b[:cap(b)]
	for i := range b {
		b[i] = '!'
	}
}
