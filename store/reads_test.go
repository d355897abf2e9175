package store_test

import (
	"math/rand"
	"strings"
	"testing"

	"postern/api"
	"postern/store"
)

func wantGet(t *testing.T, s *store.Store, key []byte, want string, there bool) {
	t.Helper()
	if value, is := s.Get(key); string(value) != want || is != there {
		t.Errorf("Get(%.300q): %.300q, %v, not %.300q, %v", key, value, is, want, there)
	}
}

func TestP11_4Get(t *testing.T) {
	s := opened(t, "new", made(t, roomy), wide)
	wantGet(t, s, nil, "", false)
	wantErrno(t, "Commit", s.Commit(batch("a=1 b= ab=2 \x00=3")), api.OK)
	for key, want := range map[string]string{"a": "1", "b": "", "ab": "2", "\x00": "3"} {
		wantGet(t, s, []byte(key), want, true)
	}
	for _, key := range []string{"", "c", "A", "a\x00", "aba", "\x00\x00", "1", strings.Repeat("k", 257), strings.Repeat("a", 1<<20)} {
		wantGet(t, s, []byte(key), "", false)
	}
	wantErrno(t, "Commit", s.Commit(batch("-a b=4")), api.OK)
	wantGet(t, s, []byte("a"), "", false)
	wantGet(t, s, []byte("b"), "4", true)
	if value, _ := s.Get([]byte("a")); value != nil {
		t.Errorf("none is told as %v", value)
	}
}

// TestP11_4Numbers: Len and Weight of what is set, set again, taken away.
func TestP11_4Numbers(t *testing.T) {
	s := opened(t, "new", made(t, roomy), wide)
	for _, c := range []struct {
		line      string
		n, weight int
	}{{"a=1", 1, 18}, {"a=12345", 1, 22}, {"a=", 1, 17}, {"bcd=xy", 2, 38}, {"-x", 2, 38}, {"-a", 1, 21}, {"bcd=xy bcd=xy", 1, 21}, {"-bcd -bcd", 0, 0}, {"-bcd a=1 -a", 0, 0}} {
		wantErrno(t, c.line, s.Commit(batch(c.line)), api.OK)
		if s.Len() != c.n || s.Weight() != c.weight {
			t.Errorf("%s: Len %d, Weight %d", c.line, s.Len(), s.Weight())
		}
	}
}

// TestP11_5Range: each pair of bounds out of keys, their neighbours, and none.
func TestP11_5Range(t *testing.T) {
	s := opened(t, "new", made(t, roomy), wide)
	m := &model{pairs: map[string]string{}}
	for _, line := range []string{"b=2 a=1 aa=3", "\xff=4 \x00= \xff\x00=6", "ab=7 abc=8 b\x00=9 -aa aaa=10"} {
		wantErrno(t, line, s.Commit(batch(line)), api.OK)
		m.pairs = behind(m.pairs, batch(line))
	}
	bounds := []string{"", "\x00", "\x00\x00", "a", "a\x00", "aa", "aaa", "aab", "ab", "abc", "abd", "b", "b\x00", "b\x00\x00", "c", "\xfe", "\xff", "\xff\x00", "\xff\x01", "\xff\xff", strings.Repeat("\xff", 300), strings.Repeat("a", 1<<16)}
	for _, from := range bounds {
		for _, to := range bounds {
			if got, want := pairsOf(s, from, to), m.line(from, to); got != want {
				t.Errorf("from %.30q to %.30q: %q, not %q", from, to, got, want)
			}
		}
	}
	count := 0
	for range s.Range(nil, nil) {
		count++
	}
	if count != 9 {
		t.Errorf("all: %d", count)
	}
}

// TestP11_5Many: random keys in order.
func TestP11_5Many(t *testing.T) {
	r := rand.New(rand.NewSource(115))
	s := opened(t, "new", made(t, roomy), wide)
	m := &model{pairs: map[string]string{}}
	for range 500 {
		key := make([]byte, 1+r.Intn(3))
		for i := range key {
			key[i] = []byte{0, 1, 'a', 'b', 0x7f, 0x80, 0xff}[r.Intn(7)]
		}
		l := []api.Change{{Key: key, Gone: r.Intn(3) == 0}}
		if !l[0].Gone {
			l[0].Value = []byte(decimal(r.Uint64()))
		}
		wantErrno(t, "Commit", s.Commit(l), api.OK)
		m.pairs = behind(m.pairs, l)
		from, to := string(key[:r.Intn(len(key)+1)]), strings.Repeat("a", r.Intn(3))
		if got, want := pairsOf(s, from, to), m.line(from, to); got != want {
			t.Fatalf("from %q to %q: %q, not %q", from, to, got, want)
		}
	}
}

// TestP11_5Moment: the pairs as they were when Range was called, as often as one likes, whatever happens meanwhile.
func TestP11_5Moment(t *testing.T) {
	d := made(t, roomy)
	s := opened(t, "new", d, wide)
	wantErrno(t, "Commit", s.Commit(batch("a=1 b=2 c=3 d=4")), api.OK)
	from, to := []byte("a"), []byte("d")
	seq := s.Range(from, to)
	none := s.Range([]byte("x"), nil)
	spoil(from)
	spoil(to)
	want := "a=1 b=2 c=3"
	line := func() string {
		var l []string
		for key, value := range seq {
			l = append(l, string(key)+"="+string(value))
			spoil(key)
			spoil(value)
		}
		return strings.Join(l, " ")
	}
	do := []func(){
		func() {}, func() { s.Commit(batch("a=9 -b bb=1 x=1")) }, func() { s.Compact() }, func() { s.Commit(batch("-a -c -d")) },
		func() { d.Arm(1, 0); s.Commit(batch("a=8")) }, func() { d.On(); opened(t, "anew", d, wide).Commit(batch("b=7")) },
	}
	for i, f := range do {
		f()
		for range 2 {
			if got := line(); got != want {
				t.Errorf("%d: %q, not %q", i, got, want)
			}
		}
	}
	for key := range none {
		t.Errorf("%q", key)
	}
	wantPairs(t, "now", s, "bb=1 x=1")
}

// TestP11_5Early: left early, at each pair; one that goes on goes on by itself.
func TestP11_5Early(t *testing.T) {
	s := opened(t, "new", made(t, roomy), wide)
	wantErrno(t, "Commit", s.Commit(batch("a=1 b=2 c=3")), api.OK)
	seq := s.Range(nil, nil)
	for n := 1; n <= 4; n++ {
		told := 0
		for range seq {
			told++
			if told == n {
				break
			}
		}
		if told != min(n, 3) {
			t.Errorf("%d: %d", n, told)
		}
	}
	line := ""
	for key := range seq {
		line += string(key)
		for inner := range seq {
			line += string(inner)
			if string(inner) == "b" {
				break
			}
		}
	}
	if line != "aabbabcab" {
		t.Errorf("one in the other: %s", line)
	}
}

// TestP11_5Within: a batch may be committed while one ranges.
func TestP11_5Within(t *testing.T) {
	s := opened(t, "new", made(t, roomy), wide)
	wantErrno(t, "Commit", s.Commit(batch("a=1 b=2 c=3")), api.OK)
	for key, value := range s.Range(nil, nil) {
		wantErrno(t, "within", s.Commit([]api.Change{{Key: key, Gone: true}, {Key: append(key, 'x'), Value: value}}), api.OK)
	}
	wantPairs(t, "within", s, "ax=1 bx=2 cx=3")
}
