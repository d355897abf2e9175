package table_test

import (
	"math/rand"
	"strings"
	"testing"

	"postern/api"
	"postern/table"
)

// TestP12_3Prefixes: each prefix out of keys, their beginnings and their neighbours, of pairs of the store and noted ones.
func TestP12_3Prefixes(t *testing.T) {
	x := begun(t, "a=1 aa=2 b=3 ab=4 \x00= \xff=5 \xff\xff=6 a\xff=7 a\xff\xff=8 b\x00=9")
	note(t, x, "aa=22 -ab aab=10 \xff\xff\xff=11 -\xff a\xff\x00=12 c= \x00\x00=13 \xfe\xff=14 -zz")
	want := []string{"\x00=", "\x00\x00=13", "a=1", "aa=22", "aab=10", "a\xff=7", "a\xff\x00=12", "a\xff\xff=8", "b=3", "b\x00=9", "c=", "\xfe\xff=14", "\xff\xff=6", "\xff\xff\xff=11"}
	for _, prefix := range []string{"", "\x00", "\x00\x00", "\x01", "a", "aa", "aab", "aac", "ab", "a\xfe", "a\xff", "a\xff\x00", "a\xff\xff", "a\xff\xff\xff", "b", "b\x00", "c", "d", "\xfe", "\xfe\xff", "\xfe\xff\xff", "\xff", "\xff\xff", "\xff\xff\xff", strings.Repeat("\xff", 300), strings.Repeat("a", 1<<16)} {
		var l []string
		for _, pair := range want {
			if strings.HasPrefix(pair, prefix) {
				l = append(l, pair)
			}
		}
		wantRange(t, x, prefix, strings.Join(l, " "))
	}
}

// TestP12_3Begins: the pairs are those of the moment when the range begins, not when it was asked for.
func TestP12_3Begins(t *testing.T) {
	_, s := started(t, wide, "a=1 b=2 x=9")
	x := table.Begin(s)
	prefix := []byte("a")
	all, some := x.Range(nil), x.Range(prefix)
	spoil(prefix)
	for _, c := range []struct{ past, noted, all, some string }{
		{"", "", "a=1 b=2 x=9", "a=1"},
		{"", "aa=3 -b", "a=1 aa=3 x=9", "a=1 aa=3"},
		{"ab=4 b=5 -x", "", "a=1 aa=3 ab=4", "a=1 aa=3 ab=4"},
		{"-a", "-aa", "ab=4", "ab=4"},
	} {
		wantErrno(t, c.past, s.Commit(batch(c.past)), api.OK)
		note(t, x, c.noted)
		for range 2 {
			if gotAll, gotSome := lineOf(all), lineOf(some); gotAll != c.all || gotSome != c.some {
				t.Errorf("%s: %q, %q, not %q, %q", c.noted, gotAll, gotSome, c.all, c.some)
			}
		}
	}
	x.Drop()
	if got := lineOf(all); got != "" {
		t.Errorf("behind the end: %q", got)
	}
}

// TestP12_3Body: what is noted, committed, dropped in the body does not change the range.
func TestP12_3Body(t *testing.T) {
	const want = "a=1 b=2 c=3 d=4"
	for what, do := range map[string]func(x *table.Txn, key []byte){
		"Put": func(x *table.Txn, key []byte) { x.Put(key, []byte("9")); x.Put(append(key, '!'), nil) },
		"Put ahead": func(x *table.Txn, key []byte) {
			x.Put([]byte("0"), key)
			x.Put([]byte("bb"), key)
			x.Put([]byte("z"), key)
		},
		"Put all":    func(x *table.Txn, key []byte) { note(t, x, "a=9 b=9 c=9 d=9") },
		"Delete":     func(x *table.Txn, key []byte) { x.Delete(key) },
		"Delete all": func(x *table.Txn, key []byte) { note(t, x, "-a -b -c -d") },
		"Drop":       func(x *table.Txn, key []byte) { x.Drop() },
		"Commit":     func(x *table.Txn, key []byte) { x.Put(key, nil); x.Commit() },
		"Range":      func(x *table.Txn, key []byte) { lineOf(x.Range(nil)); x.Delete([]byte("d")) },
	} {
		_, s := started(t, wide, "a=1 b=x c=3 e=5")
		x := table.Begin(s)
		note(t, x, "b=2 d=4 -e")
		var l []string
		for key, value := range x.Range(nil) {
			l = append(l, string(key)+"="+string(value))
			do(x, key)
		}
		if got := strings.Join(l, " "); got != want {
			t.Errorf("%s: %q, not %q", what, got, want)
		}
	}
	_, s := started(t, wide, "a=1 b=2 c=3")
	x := table.Begin(s)
	var l []string
	for key := range x.Range(nil) {
		l = append(l, string(key))
		wantErrno(t, "past it", s.Commit(batch("-b c=9 d=4")), api.OK)
	}
	if got := strings.Join(l, ""); got != "abc" {
		t.Errorf("changed past it: %q", got)
	}
}

// TestP12_3Seen: what the body notes is seen by the calls in it at once, and by the next range.
func TestP12_3Seen(t *testing.T) {
	x := begun(t, "a=1 b=2 c=3")
	for key, value := range x.Range(nil) {
		wantErrno(t, "Put", x.Put(key, append(value, '+')), api.OK)
		wantGet(t, x, string(key), string(value)+"+", true)
		wantBool(t, "Delete", x.Delete([]byte("c")), string(key) == "a" || string(key) == "c")
	}
	wantRange(t, x, "", "a=1+ b=2+")
}

// TestP12_3Early: it may be left behind each pair, and ranged over again.
func TestP12_3Early(t *testing.T) {
	x := begun(t, "a=1 c=3")
	note(t, x, "b=2 d=4")
	seq := x.Range(nil)
	for leave := 1; leave <= 4; leave++ {
		n := 0
		for range seq {
			n++
			if n == leave {
				break
			}
		}
		if n != leave || lineOf(seq) != "a=1 b=2 c=3 d=4" {
			t.Errorf("left behind %d: %d", leave, n)
		}
	}
	both := ""
	for outer := range seq {
		for inner := range seq {
			both += string(outer) + string(inner) + " "
			if string(inner) == "b" {
				break
			}
		}
	}
	if both != "aa ab ba bb ca cb da db " {
		t.Errorf("one in another: %s", both)
	}
}

// TestP12_3Many: random keys and prefixes, half of the pairs noted.
func TestP12_3Many(t *testing.T) {
	r := rand.New(rand.NewSource(123))
	_, s := started(t, wide, "")
	m := &model{pairs: map[string]string{}}
	x, y := table.Begin(s), m.begin()
	for range 3000 {
		key := anyKey(r)
		switch r.Intn(5) {
		case 0:
			x.Delete([]byte(key))
			y.delete(key)
		case 1, 2:
			x.Put([]byte(key), []byte{byte('0' + r.Intn(10))})
			value, _ := x.Get([]byte(key))
			y.put(key, string(value))
		default:
			l := []api.Change{{Key: []byte(key), Gone: r.Intn(3) == 0}}
			wantErrno(t, "past it", s.Commit(l), api.OK)
			m.carryOut(l)
		}
		prefix := key[:r.Intn(len(key)+1)]
		wantRange(t, x, prefix, y.line(prefix))
	}
}

// anyKey tells a short key of few unlike bytes.
func anyKey(r *rand.Rand) string {
	key := make([]byte, 1+r.Intn(4))
	for i := range key {
		key[i] = []byte{0, 'a', 'b', 0xfe, 0xff}[r.Intn(5)]
	}
	return string(key)
}
