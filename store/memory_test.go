package store_test

import (
	"bytes"
	"math/rand"
	"strconv"
	"strings"
	"sync"
	"testing"

	"postern/api"
	"postern/store"
)

// TestP11_7Any: whatever stands on the disk, Open does what P11.1 says of it.
func TestP11_7Any(t *testing.T) {
	r := rand.New(rand.NewSource(117))
	seen := map[api.Errno]int{}
	for range 20000 {
		files := anyFiles(r)
		limits := api.Limits{Pairs: 1 + r.Intn(4), Weight: 1 + r.Intn(100), Log: r.Intn(100)}
		d, m := made(t, roomy, files...), &model{d: made(t, roomy, files...), limits: limits}
		s, e := store.Open(d, limits)
		want := m.open()
		seen[e]++
		if e != want || (s != nil) != (want == api.OK) || told(d) != told(m.d) || d.Writes() != m.d.Writes() {
			t.Fatalf("%q: a store %v, %d, not %d; files %.300q, not %.300q", files, s != nil, e, want, told(d), told(m.d))
		}
		if s == nil {
			continue
		}
		if pairsOf(s, "", "") != m.line("", "") || s.Number() != m.number || s.LogSize() != m.logSize || s.Len() != len(m.pairs) || s.Weight() != m.weight() || s.Err() != api.OK {
			t.Fatalf("%q: pairs %q, not %q", files, pairsOf(s, "", ""), m.line("", ""))
		}
	}
	for _, e := range []api.Errno{api.OK, api.ErrStoreDamage} {
		if seen[e] < 3000 {
			t.Errorf("%d: only %d times", e, seen[e])
		}
	}
}

// anyFiles tells files that are a store's, or nearly so.
func anyFiles(r *rand.Rand) []api.File {
	number := []uint64{0, 0, 1, 1, 7, last - 1, last, last + 1}[r.Intn(8)]
	var files []api.File
	if number != 0 || r.Intn(3) == 0 {
		files = append(files, file("snap", bent(r, snapOf(number, []string{"", "a=1", "a=1 b=2", "b=1 a=2", "a= b= c="}[r.Intn(5)]))))
	}
	if r.Intn(4) != 0 {
		text := ""
		for range r.Intn(4) {
			text += logOf([]string{"", "a=2", "-a", "-b c=3", "a=1 b=2 c=3 -a -c", "x=" + strings.Repeat("y", r.Intn(50))}[r.Intn(6)])
		}
		if r.Intn(3) == 0 {
			text += logOf("torn=1")[:r.Intn(30)]
		}
		files = append(files, file("log."+decimal(number), bent(r, text)))
	}
	if r.Intn(4) == 0 {
		files = append(files, file("snap.new", "x"), file("log.3", "y"), file("log.03", "z"))
	}
	return files
}

// bent changes a text, now and then: a byte of it, or so that the sums fit.
func bent(r *rand.Rand, text string) string {
	switch b := []byte(text); {
	case len(b) == 0:
	case r.Intn(12) == 0:
		b[r.Intn(len(b))] = byte(r.Intn(256))
		return string(b)
	case r.Intn(12) == 0:
		return text[:r.Intn(len(b))]
	case r.Intn(12) == 0:
		body, rest, _, _ := unframed(text)
		inner := []byte(body)
		if len(inner) > 0 {
			inner[r.Intn(len(inner))] = byte(r.Intn(5))
		}
		return frameOf(string(inner)) + rest
	}
	return text
}

// TestP11_7HandedIn: what is handed in is not changed, nor is the room behind it, and it is not kept.
func TestP11_7HandedIn(t *testing.T) {
	d := made(t, roomy)
	s := opened(t, "new", d, wide)
	room := []byte("key,value,more")
	l := []api.Change{{Key: room[:3], Value: room[4:9]}, {Key: room[4:9]}, {Key: room[:5]}, {Key: room[:5], Gone: true}}
	wantErrno(t, "Commit", s.Commit(l), api.OK)
	if string(room) != "key,value,more" || len(l) != 4 || string(l[0].Value) != "value" || !l[3].Gone {
		t.Errorf("became %q, %v", room, l)
	}
	spoil(room)
	clear(l)
	wantPairs(t, "spoilt", s, "key=value value=")
	wantErrno(t, "Compact", s.Compact(), api.OK)
	wantFiles(t, "Compact", d, file("snap", snapOf(1, "key=value value=")))
	key := []byte("key")
	s.Get(key)
	if string(key) != "key" {
		t.Errorf("Get made it %q", key)
	}
}

// TestP11_7Told: what is told is the caller's own, from Get and from Range, each time anew.
func TestP11_7Told(t *testing.T) {
	for _, s := range []*store.Store{opened(t, "new", made(t, roomy), wide), opened(t, "log", made(t, roomy, file("log.0", logOf("x=1"))), wide), opened(t, "snap", made(t, roomy, file("snap", snapOf(1, "x=1"))), wide)} {
		wantErrno(t, "Commit", s.Commit(batch("a=one b=two -x")), api.OK)
		seq := s.Range(nil, nil)
		for range 2 {
			for key, value := range seq {
				spoil(key)
				spoil(value)
				_, _ = append(key, "more"...), append(value, "more"...)
			}
			value, _ := s.Get([]byte("a"))
			other, _ := s.Get([]byte("a"))
			spoil(value)
			if string(other) != "one" {
				t.Errorf("another answer became %q", other)
			}
			wantPairs(t, "spoilt", s, "a=one b=two")
			wantGet(t, s, []byte("a"), "one", true)
		}
	}
}

// TestP11_7Undone: values of a batch that was undone are the old ones, also those that a range has told.
func TestP11_7Undone(t *testing.T) {
	d := made(t, roomy)
	s := opened(t, "new", d, api.Limits{Pairs: 2, Weight: 100, Log: 1000})
	wantErrno(t, "Commit", s.Commit(batch("a=1 b=2")), api.OK)
	seq := s.Range(nil, nil)
	for range 3 {
		wantRefused(t, "full", d, s, batch("a=3 -b b=4 c=5 -a a=6"), api.ErrStoreFull)
		for key, value := range seq {
			if string(key)+string(value) != "a1" && string(key)+string(value) != "b2" {
				t.Errorf("%s=%s", key, value)
			}
		}
	}
}

// TestP11_7Place: the same memory with other contents is something else.
func TestP11_7Place(t *testing.T) {
	s := opened(t, "new", made(t, roomy), wide)
	l := batch("a=1")
	for _, line := range []string{"a=1", "b=2", "c=3"} {
		copy(l[0].Key, line[:1])
		copy(l[0].Value, line[2:])
		wantErrno(t, line, s.Commit(l), api.OK)
	}
	wantPairs(t, "place", s, "a=1 b=2 c=3")
}

// TestP11_7Nil: nil and empty are one.
func TestP11_7Nil(t *testing.T) {
	for _, none := range [][]byte{nil, {}, []byte("xyz")[:0]} {
		d := made(t, roomy)
		s := opened(t, "new", d, wide)
		wantErrno(t, "a key of none", s.Commit([]api.Change{{Key: none}}), api.ErrStoreKey)
		wantErrno(t, "a value of none", s.Commit([]api.Change{{Key: []byte("a"), Value: none}, {Key: []byte("b"), Value: none, Gone: true}}), api.OK)
		wantFiles(t, "none", d, file("log.0", logOf("a= -b")))
		wantGet(t, s, []byte("a"), "", true)
		wantGet(t, s, none, "", false)
		count := 0
		for range s.Range(none, none) {
			count++
		}
		if count != 1 {
			t.Errorf("a range of none: %d", count)
		}
	}
}

// TestP11_7Second: a second Open, behind a torn write of the first one or not, goes on by itself.
func TestP11_7Second(t *testing.T) {
	d := made(t, roomy)
	first := opened(t, "first", d, wide)
	wantErrno(t, "first", first.Commit(batch("a=1")), api.OK)
	second := opened(t, "second", d, wide)
	wantErrno(t, "second", second.Commit(batch("b=2")), api.OK)
	wantErrno(t, "second", second.Compact(), api.OK)
	wantErrno(t, "second", second.Commit(batch("-a")), api.OK)
	wantPairs(t, "second", second, "b=2")
	wantPairs(t, "anew", opened(t, "anew", d, wide), "b=2")
	// What the first one does now, nothing says; but it ends.
	first.Commit(batch("c=3"))
	first.Compact()
	first.Compact()
	first.Commit(batch("d=4"))
}

// TestP11_7Past: files that are changed past a store: its calls end, and that is all.
func TestP11_7Past(t *testing.T) {
	r := rand.New(rand.NewSource(1177))
	for range 2000 {
		d := made(t, 2000)
		limits := api.Limits{Pairs: 5, Weight: 200, Log: r.Intn(80)}
		s := opened(t, "new", d, limits)
		for range 20 {
			name := []string{"snap", "snap.new", "log.0", "log.1", "log.2", "other"}[r.Intn(6)]
			switch r.Intn(8) {
			case 0:
				d.Append(name, []byte("\xc9past"))
			case 1:
				d.Remove(name)
			case 2:
				d.Rename(name, "snap")
			case 3:
				d.Cut(name, 5)
			case 4:
				s.Compact()
			default:
				s.Commit(batch([]string{"a=1", "-a b=2", "c=", "-b"}[r.Intn(4)]))
			}
			pairsOf(s, "", "")
			s.LogSize()
		}
		store.Open(d, limits)
	}
}

// TestP11_7Apart: stores of different disks have nothing in common, each a goroutine's own.
func TestP11_7Apart(t *testing.T) {
	var all sync.WaitGroup
	for i := range 8 {
		all.Go(func() {
			d := made(t, roomy)
			s := opened(t, "new", d, api.Limits{Pairs: 100, Weight: 10000, Log: 100})
			for n := range 50 {
				value := strconv.Itoa(i*1000 + n)
				wantErrno(t, "Commit", s.Commit(batch("k="+value+" n"+strconv.Itoa(n%10)+"="+value)), api.OK)
				wantGet(t, s, []byte("k"), value, true)
				if n%7 == 0 {
					wantErrno(t, "Compact", s.Compact(), api.OK)
				}
			}
			wantGet(t, opened(t, "anew", d, wide), []byte("n9"), strconv.Itoa(i*1000+49), true)
		})
	}
	all.Wait()
}

// TestP11_7Heavy: a great value is told as it was handed in.
func TestP11_7Heavy(t *testing.T) {
	r := rand.New(rand.NewSource(1178))
	value := make([]byte, 262144)
	r.Read(value)
	d := made(t, 1<<22)
	s := opened(t, "new", d, wide)
	wantErrno(t, "Commit", s.Commit([]api.Change{{Key: []byte("v"), Value: value}}), api.OK)
	wantErrno(t, "Compact", s.Compact(), api.OK)
	for _, s := range []*store.Store{s, opened(t, "anew", d, wide)} {
		if got, there := s.Get([]byte("v")); !bytes.Equal(got, value) || !there {
			t.Errorf("%d bytes, %v", len(got), there)
		}
	}
}
