package claim_test

import (
	"math/rand"
	"regexp"
	"slices"
	"strings"
	"testing"

	"postern/api"
	"postern/claim"
)

func wantSet(t *testing.T, l []string) {
	t.Helper()
	want, f := wantedSet(l)
	if set, e := claim.Set(l); e != f || !slices.Equal(set, want) {
		t.Errorf("Set(%q) = %q, %d, want %q, %d", l, set, e, want, f)
	}
}

func TestP6_2Set(t *testing.T) {
	if set, e := claim.Set([]string{"b", "a", "b"}); e != api.OK || !slices.Equal(set, []string{"a", "b"}) {
		t.Errorf("Set(b, a, b) = %q, %d", set, e)
	}
	for _, l := range lists(5, "b", "a", "ab", "B", "~") {
		wantSet(t, l)
	}
	for _, l := range lists(3, "a", "b", "", "a b", "é", " ", "\xff", `"`, strings.Repeat("s", 32), strings.Repeat("s", 33)) {
		wantSet(t, l)
	}
	r := rand.New(rand.NewSource(2))
	for range 3000 {
		var l []string
		for range r.Intn(25) {
			l = append(l, drawScope(r))
		}
		wantSet(t, append(l, l[:r.Intn(len(l)+1)]...))
	}
}

// TestP6_2SetMost: it is those that are unlike that are counted, wherever they stand.
func TestP6_2SetMost(t *testing.T) {
	r := rand.New(rand.NewSource(3))
	for n := 14; n <= 18; n++ {
		for range 50 {
			l := slices.Concat(many(n), many(n), many(n/2))
			r.Shuffle(len(l), func(i, j int) { l[i], l[j] = l[j], l[i] })
			wantSet(t, l)
			wantSet(t, slices.Repeat(l, 40))
			wantSet(t, append(l, ""))
			wantSet(t, append(l, l[0]))
		}
	}
	if set, e := claim.Set(many(17)); e != api.ErrClaimScope || len(set) != 0 {
		t.Errorf("Set of 17: %q, %d", set, e)
	}
	if set, e := claim.Set(append(many(16), many(16)...)); e != api.OK || !slices.Equal(set, many(16)) {
		t.Errorf("Set of 16 twice: %q, %d", set, e)
	}
}

func wantSplit(t *testing.T, s string) {
	t.Helper()
	var want []string
	f := api.OK
	switch {
	case s == "":
	case !regexp.MustCompile(`^[!-~]+( [!-~]+)*\z`).MatchString(s):
		f = api.ErrClaimScope
	default:
		want, f = wantedSet(strings.Fields(s))
	}
	if l, e := claim.Split(s); e != f || !slices.Equal(l, want) {
		t.Errorf("Split(%q) = %q, %d, want %q, %d", s, l, e, want, f)
	}
}

func TestP6_2Split(t *testing.T) {
	if l, e := claim.Split("b a b"); e != api.OK || !slices.Equal(l, []string{"a", "b"}) {
		t.Errorf("Split(b a b) = %q, %d", l, e)
	}
	if l, e := claim.Split(""); e != api.OK || len(l) != 0 {
		t.Errorf("Split of nothing: %q, %d", l, e)
	}
	for _, s := range []string{"a  b", " a", "a ", " ", "  ", "a\tb", "a\nb", "\ta", "a\n", "a\u00a0b", "a\u2003b", "a\xffb", `a "b"`, `a \`, "é", "a \x7f", "a b c ", "\x00", strings.Repeat("s", 33), "a " + strings.Repeat("s", 33), strings.Join(many(17), " ")} {
		if l, e := claim.Split(s); e != api.ErrClaimScope || len(l) != 0 {
			t.Errorf("Split(%q) = %q, %d, want ErrClaimScope", s, l, e)
		}
	}
	for _, l := range lists(7, "a", "b", " ") {
		wantSplit(t, strings.Join(l, ""))
	}
	for _, l := range lists(4, "a", " ", "\t", "\"", "~", "é") {
		wantSplit(t, strings.Join(l, ""))
	}
	for n := range 20 {
		backward := many(n)
		slices.Reverse(backward)
		wantSplit(t, strings.Join(append(backward, many(n)...), " "))
	}
	for _, s := range []string{strings.Repeat("a ", 1<<16) + "a", strings.Repeat("a ", 1<<16), strings.Repeat(" ", 1<<16), strings.Repeat("b a ", 1<<16) + "c"} {
		wantSplit(t, s)
	}
}

func TestP6_2Join(t *testing.T) {
	for _, c := range []struct {
		want string
		l    []string
	}{
		{"", nil}, {"", []string{}}, {"a", []string{"a"}}, {"a b", []string{"a", "b"}}, {"b a b", []string{"b", "a", "b"}}, {"", []string{""}}, {" ", []string{"", ""}}, {"a  b", []string{"a", "", "b"}}, {" x y  \xff", []string{" x y ", "\xff"}}, {"\n é", []string{"\n", "é"}},
	} {
		if s := claim.Join(c.l); s != c.want {
			t.Errorf("Join(%q) = %q, want %q", c.l, s, c.want)
		}
	}
	if s := claim.Join(many(1000)); s != strings.Join(many(1000), " ") {
		t.Errorf("Join of 1000: %q", s)
	}
}

func TestP6_2Within(t *testing.T) {
	for _, a := range lists(3, "a", "b", "ab", "", "\xff") {
		for _, b := range lists(3, "b", "a", "ab", "", "A") {
			want := true
			for _, s := range a {
				want = want && slices.Contains(b, s)
			}
			if claim.Within(a, b) != want {
				t.Errorf("Within(%q, %q) is not %v", a, b, want)
			}
		}
	}
	if !claim.Within(nil, nil) || !claim.Within([]string{}, many(3)) || claim.Within(many(1), nil) {
		t.Error("Within of empty lists")
	}
	backward := many(1 << 16)
	slices.Reverse(backward)
	if !claim.Within(many(1<<16), backward) || !claim.Within(backward, backward) || claim.Within(backward, backward[1:]) || claim.Within(append(backward, ""), backward) {
		t.Error("Within of long lists")
	}
}

func TestP6_2Union(t *testing.T) {
	all := lists(3, "b", "a", "ab", "", "a b")
	for _, a := range all {
		for _, b := range all {
			want, f := wantedSet(slices.Concat(a, b))
			if set, e := claim.Union(a, b); e != f || !slices.Equal(set, want) {
				t.Errorf("Union(%q, %q) = %q, %d, want %q, %d", a, b, set, e, want, f)
			}
		}
	}
	for _, c := range []struct {
		a, b []string
		want api.Errno
	}{
		{many(16), []string{"q"}, api.ErrClaimScope}, {[]string{"q"}, many(16), api.ErrClaimScope}, {many(15), []string{"q"}, api.OK}, {many(16), many(16), api.OK}, {many(16), nil, api.OK}, {nil, many(16), api.OK}, {many(17), nil, api.ErrClaimScope}, {nil, many(17), api.ErrClaimScope}, {many(8), many(16)[8:], api.OK}, {many(9), many(17)[9:], api.ErrClaimScope},
	} {
		set, e := claim.Union(c.a, c.b)
		if want, _ := wantedSet(slices.Concat(c.a, c.b)); e != c.want || !slices.Equal(set, want) {
			t.Errorf("Union(%q, %q) = %q, %d, want %d", c.a, c.b, set, e, c.want)
		}
	}
}

// TestP6_6ThereAndBack: Split(Join(l)) is l, of each set.
func TestP6_6ThereAndBack(t *testing.T) {
	r := rand.New(rand.NewSource(4))
	sets := [][]string{nil, many(1), many(16), {strings.Repeat("!", 32)}}
	for range 3000 {
		sets = append(sets, drawClaims(r).Scopes)
	}
	for _, set := range sets {
		if l, e := claim.Split(claim.Join(set)); e != api.OK || !slices.Equal(l, set) {
			t.Errorf("Split(Join(%q)) = %q, %d", set, l, e)
		}
		if l, e := claim.Set(set); e != api.OK || !slices.Equal(l, set) {
			t.Errorf("Set(%q) = %q, %d", set, l, e)
		}
	}
}

// TestP6_6Union: of all sets the union is the least one in which both are.
func TestP6_6Union(t *testing.T) {
	var sets [][]string
	for _, l := range lists(4, "a", "ab", "b", "c") {
		if set, e := wantedSet(l); e == api.OK && slices.Equal(set, l) {
			sets = append(sets, set)
		}
	}
	if len(sets) != 16 {
		t.Fatalf("%d sets", len(sets))
	}
	for _, a := range sets {
		for _, b := range sets {
			union, e := claim.Union(a, b)
			if e != api.OK || !claim.Within(a, union) || !claim.Within(b, union) {
				t.Errorf("Union(%q, %q) = %q, %d", a, b, union, e)
			}
			for _, set := range sets {
				if claim.Within(a, set) && claim.Within(b, set) && !claim.Within(union, set) {
					t.Errorf("Union(%q, %q) = %q, but both are in %q", a, b, union, set)
				}
			}
		}
	}
}
