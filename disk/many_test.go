package disk_test

import (
	"bytes"
	"sync"
	"sync/atomic"
	"testing"

	"postern/api"
	"postern/disk"
)

const workers = 8

// together has several goroutines do their work at a time, and waits for them all.
func together(work func(k int)) {
	var all sync.WaitGroup
	for k := range workers {
		all.Go(func() { work(k) })
	}
	all.Wait()
}

// meanwhile has one more goroutine look again and again until the work of the others has ended.
func meanwhile(look func(), work func(k int)) {
	var over atomic.Bool
	var looking sync.WaitGroup
	looking.Go(func() {
		for !over.Load() {
			look()
		}
		look()
	})
	together(work)
	over.Store(true)
	looking.Wait()
}

// wholeBlocks tells whether bytes are blocks of so many alike.
func wholeBlocks(b []byte, size int) bool {
	if len(b)%size != 0 {
		return false
	}
	for ; len(b) > 0; b = b[size:] {
		if !bytes.Equal(b[:size], bytes.Repeat(b[:1], size)) {
			return false
		}
	}
	return true
}

// TestP9_7Append: what several append stands there whole, and all of it.
func TestP9_7Append(t *testing.T) {
	const times, size = 200, 5
	d := made(t, workers*times*size)
	look := func() {
		b, e := d.Read("a")
		if e != api.ErrDiskNone && (e != api.OK || !wholeBlocks(b, size)) {
			t.Errorf("Read: %d bytes, %d", len(b), e)
		}
		if n, _ := d.Size("a"); n < len(b) || n%size != 0 {
			t.Errorf("Size: %d behind %d", n, len(b))
		}
	}
	meanwhile(look, func(k int) {
		for range times {
			wantErrno(t, "Append", d.Append("a", bytes.Repeat([]byte{byte('a' + k)}, size)), api.OK)
		}
	})
	b, _ := d.Read("a")
	for k := range workers {
		if n := bytes.Count(b, []byte{byte('a' + k)}); n != times*size {
			t.Errorf("%d bytes of the goroutine %d", n, k)
		}
	}
	wantWrites(t, "all", d, workers*times)
}

// TestP9_7Room: however many append at a time, the room is filled, and no more.
func TestP9_7Room(t *testing.T) {
	d := made(t, 1000)
	var done atomic.Int64
	together(func(k int) {
		for range 300 {
			switch e := d.Append(string(rune('a'+k%3)), []byte("x")); e {
			case api.OK:
				done.Add(1)
			case api.ErrDiskFull:
			default:
				t.Errorf("Append: %d", e)
			}
		}
	})
	n := 0
	for _, f := range d.Files() {
		n += len(f.Bytes)
	}
	if done.Load() != 1000 || n != 1000 || d.Writes() != 1000 {
		t.Errorf("%d appended, %d bytes, %d writes", done.Load(), n, d.Writes())
	}
}

// TestP9_7Files: however many make files at a time, they are as many as may be, and no more.
func TestP9_7Files(t *testing.T) {
	d := made(t, 10)
	var done atomic.Int64
	together(func(k int) {
		for i := range 20 {
			if d.Append(string([]rune{rune('a' + k), rune('a' + i)}), nil) == api.OK {
				done.Add(1)
			}
		}
	})
	if done.Load() != api.MaxFiles || len(d.Files()) != api.MaxFiles {
		t.Errorf("%d made, %d files", done.Load(), len(d.Files()))
	}
}

// TestP9_7Rename: a file that is renamed is seen under one name, never under none or two.
func TestP9_7Rename(t *testing.T) {
	d := loaded(t, 100, file("a", "hello"))
	look := func() {
		if names, e := d.Names(); e != api.OK || len(names) != 1 {
			t.Errorf("Names: %q, %d", names, e)
		}
		if l := d.Files(); len(l) != 1 || string(l[0].Bytes) != "hello" {
			t.Errorf("Files: %q", text(l))
		}
	}
	var done atomic.Int64
	meanwhile(look, func(k int) {
		from, to := string(rune('a'+k%3)), string(rune('a'+(k+1)%3))
		for range 300 {
			if d.Rename(from, to) == api.OK {
				done.Add(1)
			}
		}
	})
	wantWrites(t, "Rename", d, int(done.Load()))
}

// TestP9_7Gone: a file that comes and goes is read whole, or is not there.
func TestP9_7Gone(t *testing.T) {
	d := made(t, 100)
	change := func() {
		wantErrno(t, "Append", d.Append("a", []byte("hello")), api.OK)
		wantErrno(t, "Remove", d.Remove("a"), api.OK)
	}
	meanwhile(change, func(k int) {
		for range 10000 {
			if b, e := d.Read("a"); string(b) != "hello" && e != api.ErrDiskNone {
				t.Errorf("Read: %q, %d", b, e)
			}
			if n, e := d.Size("a"); n != 5 && e != api.ErrDiskNone {
				t.Errorf("Size: %d, %d", n, e)
			}
			if l, e := d.Names(); e != api.OK || len(l) > 1 {
				t.Errorf("Names: %q, %d", l, e)
			}
		}
	})
}

// TestP9_7Torn: of the writes of several one is torn, the armed one, and none is done behind it.
func TestP9_7Torn(t *testing.T) {
	for range 50 {
		d := made(t, 10000)
		d.Arm(100, 2)
		var done atomic.Int64
		together(func(k int) {
			for range 50 {
				switch e := d.Append("a", []byte("xyz")); e {
				case api.OK:
					done.Add(1)
				case api.ErrDiskOff:
					if !d.Off() {
						t.Error("the power is on behind ErrDiskOff")
					}
				default:
					t.Errorf("Append: %d", e)
				}
			}
		})
		if l := d.Files(); done.Load() != 99 || d.Writes() != 100 || len(l) != 1 || len(l[0].Bytes) != 99*3+2 {
			t.Errorf("%d done, %d writes, %d files", done.Load(), d.Writes(), len(l))
		}
	}
}

// TestP9_7All: every call at a time with every other.
func TestP9_7All(t *testing.T) {
	d := made(t, 500)
	var done atomic.Int64
	count := func(e api.Errno) {
		if e == api.OK {
			done.Add(1)
		}
	}
	together(func(k int) {
		for i := range 3000 {
			name, other := string(rune('a'+(k+i)%5)), string(rune('a'+i%4))
			count(d.Append(name, make([]byte, i%7)))
			count(d.Cut(name, i%5))
			count(d.Rename(name, other))
			count(d.Remove(other))
			d.Read(name)
			d.Size(name)
			d.Names()
			d.Off()
			d.On()
			d.Arm(-i, i)
			if n := d.Writes(); n > d.Writes() || d.Room() != 500 {
				t.Errorf("%d writes and then fewer, or a room of %d", n, d.Room())
			}
			if _, e := disk.Load(d.Files(), 500); e != api.OK {
				t.Errorf("Load of what Files has told: %d", e)
			}
		}
	})
	wantWrites(t, "all", d, int(done.Load()))
}
