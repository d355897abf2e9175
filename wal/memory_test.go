package wal_test

import (
	"bytes"
	"math/rand"
	"slices"
	"strconv"
	"strings"
	"sync"
	"testing"

	"postern/api"
	"postern/wal"
)

func spoil(b []byte) {
	b = b[:cap(b)]
	for i := range b {
		b[i] = '!'
	}
}

// TestP10_5Any: whatever stands on the disk, what is told is what P10.1 says of it.
func TestP10_5Any(t *testing.T) {
	r := rand.New(rand.NewSource(105))
	seen := map[string]int{}
	for range 20000 {
		text := anyText(r)
		want, end, damaged := wantedOf(text)
		d := holding(t, text)
		if damaged {
			seen["damaged"]++
			wantNoLog(t, text, d, "log", api.ErrWalDamage)
			continue
		}
		writes := 0
		if end < len(text) {
			seen["torn"]++
			writes = 1
		}
		seen["records"] += len(want)
		wantOpen(t, text, d, "log", want...)
		wantWrites(t, text, d, writes)
		wantFiles(t, text, d, "log:"+text[:end])
	}
	for _, what := range []string{"damaged", "torn", "records"} {
		if seen[what] < 1000 {
			t.Errorf("%s: only %d", what, seen[what])
		}
	}
}

// anyText tells frames, parts of frames, bytes that are neither; some of them bent.
func anyText(r *rand.Rand) string {
	var b []byte
	for range r.Intn(6) {
		frame := frameOf(strings.Repeat(string(rune('a'+r.Intn(26))), r.Intn(20)))
		switch r.Intn(12) {
		case 0:
			b = append(b, frame[:r.Intn(len(frame))]...)
		case 1:
			b = append(b, headOf(uint32(r.Uint64())>>r.Intn(32))...)
		case 2:
			b = append(b, byte(r.Intn(256)))
		default:
			b = append(b, frame...)
		}
	}
	if len(b) > 0 && r.Intn(4) == 0 {
		b[r.Intn(len(b))] = byte(r.Intn(256))
	}
	if r.Intn(3) == 0 {
		b = b[:r.Intn(len(b)+1)]
	}
	return string(b)
}

// TestP10_5HandedIn: what is handed in is not changed, nor is the room behind it, and it is not kept.
func TestP10_5HandedIn(t *testing.T) {
	d := made(t, roomy)
	l := wantOpen(t, "new", d, "log")
	room := []byte("hello, world")
	wantErrno(t, "hello", l.Append(room[:5]), api.OK)
	wantErrno(t, "none", l.Append(room[5:5]), api.OK)
	wantErrno(t, "world", l.Append(room[7:]), api.OK)
	if string(room) != "hello, world" {
		t.Errorf("became %q", room)
	}
	spoil(room)
	wantFiles(t, "spoilt", d, "log:"+framesOf("hello", "", "world"))
	wantErrno(t, "spoilt", l.Append(room[:2]), api.OK)
	wantOpen(t, "spoilt", d, "log", "hello", "", "world", "!!")
}

// TestP10_5Told: records are the caller's own, and no two of them share memory.
func TestP10_5Told(t *testing.T) {
	want := []string{"one", "", "three", "f"}
	d := holding(t, framesOf(want...)+"\xc9")
	l, records, _ := wal.Open(d, "log")
	_, others, _ := wal.Open(d, "log")
	for i := range records {
		spoil(records[i])
		records[i] = append(records[i], "more"...)
		for k := i + 1; k < len(records); k++ {
			if string(records[k]) != want[k] {
				t.Errorf("record %d became %q by record %d", k, records[k], i)
			}
		}
	}
	if !slices.Equal(texts(others), want) {
		t.Errorf("another answer became %q", texts(others))
	}
	wantErrno(t, "behind it", l.Append([]byte("g")), api.OK)
	wantFiles(t, "spoilt", d, "log:"+framesOf(want...)+frameOf("g"))
	if !slices.Equal(texts(others), want) {
		t.Errorf("an answer became %q by an Append", texts(others))
	}
	wantOpen(t, "spoilt", d, "log", append(want, "g")...)
}

// TestP10_5Place: the same memory with other contents is something else.
func TestP10_5Place(t *testing.T) {
	d := made(t, roomy)
	l := wantOpen(t, "new", d, "log")
	b := []byte("abc")
	for _, s := range []string{"abc", "def", "ghi"} {
		copy(b, s)
		wantErrno(t, s, l.Append(b), api.OK)
	}
	wantOpen(t, "again", d, "log", "abc", "def", "ghi")
}

// TestP10_5Nil: nil and empty are one.
func TestP10_5Nil(t *testing.T) {
	for _, b := range [][]byte{nil, {}, bytes.Repeat([]byte("x"), 3)[:0]} {
		d := made(t, roomy)
		l := wantOpen(t, "new", d, "log")
		wantErrno(t, "none", l.Append(b), api.OK)
		wantFiles(t, "none", d, "log:"+frameOf(""))
		wantOpen(t, "none", d, "log", "")
		d = made(t, roomy, api.File{Name: "log", Bytes: b})
		wantOpen(t, "a file of none", d, "log")
	}
}

// TestP10_5Apart: logs of different files, or of different disks, have nothing in common.
func TestP10_5Apart(t *testing.T) {
	d, far := made(t, 1000, file("bad", "\x00")), made(t, 1000)
	a, b, c := wantOpen(t, "a", d, "a"), wantOpen(t, "a.", d, "a."), wantOpen(t, "far", far, "a")
	wantErrno(t, "a", a.Append([]byte("1")), api.OK)
	wantErrno(t, "a.", b.Append([]byte("22")), api.OK)
	wantErrno(t, "far", c.Append([]byte("333")), api.OK)
	wantNoLog(t, "bad", d, "bad", api.ErrWalDamage)
	wantErrno(t, "a", a.Append([]byte("4")), api.OK)
	wantErrno(t, "full", a.Append(make([]byte, 1000)), api.ErrDiskFull)
	wantOff(t, "full", d, a)
	wantErrno(t, "a.", b.Append([]byte("55")), api.OK)
	wantErrno(t, "far", c.Append([]byte("666")), api.OK)
	wantLog(t, "a", a, "a", 28)
	wantLog(t, "a.", b, "a.", 30)
	wantLog(t, "far", c, "a", 32)
	wantOpen(t, "a", d, "a", "1", "4")
	wantOpen(t, "a.", d, "a.", "22", "55")
	wantOpen(t, "far", far, "a", "333", "666")
}

// TestP10_5Many: logs of different files of one disk are each a goroutine's own.
func TestP10_5Many(t *testing.T) {
	d := made(t, roomy)
	var all sync.WaitGroup
	for i := range 8 {
		all.Go(func() {
			name := "log." + strconv.Itoa(i)
			var want []string
			for range 10 {
				l, records, e := wal.Open(d, name)
				if e != api.OK || !slices.Equal(texts(records), want) {
					t.Errorf("%s: %q, %d", name, texts(records), e)
					return
				}
				for k := range 10 {
					s := strings.Repeat(strconv.Itoa(i), k)
					want = append(want, s)
					wantErrno(t, name, l.Append([]byte(s)), api.OK)
				}
				wantLog(t, name, l, name, len(framesOf(want...)))
			}
		})
	}
	all.Wait()
}
