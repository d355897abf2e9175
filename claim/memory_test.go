package claim_test

import (
	"math/rand"
	"slices"
	"strings"
	"testing"

	"postern/api"
	"postern/claim"
)

// everyList tells the lists that the calls answer of two.
func everyList(a, b []string) [][]string {
	claim.Join(a)
	claim.Within(a, b)
	set, _ := claim.Set(a)
	split, _ := claim.Split(claim.Join(a))
	union, _ := claim.Union(a, b)
	swapped, _ := claim.Union(b, a)
	return [][]string{set, split, union, swapped}
}

// roomy is a copy of its own with some texts in the room behind it, so that an append to what shares it would be seen.
func roomy(l []string) []string {
	return append(slices.Clone(l), "room", "behind", "it")[:len(l)]
}

// spoil overwrites all that a list holds, its room too.
func spoil(l []string) {
	l = l[:cap(l)]
	for i := range l {
		l[i] = "spoilt"
	}
}

func spoilValue(v api.Value) {
	spoil(v.Keys)
	for i := range v.Items {
		v.Items[i] = text("spoilt")
	}
}

func drawLists(r *rand.Rand) ([]string, []string) {
	a, b := drawClaims(r).Scopes, drawClaims(r).Scopes
	a, b = a[:min(len(a), 8)], b[:min(len(b), 8)]
	switch r.Intn(4) {
	case 0:
		r.Shuffle(len(a), func(i, j int) { a[i], a[j] = a[j], a[i] })
	case 1:
		b = append(b, a...)
	case 2:
		b = append(b, pick(r, "", "a b", "é"))
	}
	return a, b
}

// TestP6_7HandedIn: what is handed in is not changed, nor is the room behind it.
func TestP6_7HandedIn(t *testing.T) {
	r := rand.New(rand.NewSource(8))
	for range 1000 {
		a, b := drawLists(r)
		x, y := roomy(a), roomy(b)
		everyList(x, y)
		c := shopBut(func(c *api.Claims) { c.Scopes = x })
		claim.Check(c)
		claim.Map(c)
		claim.Same(c, shopBut(func(c *api.Claims) { c.Scopes = y }))
		for i, l := range [][]string{x, y} {
			if want := [][]string{a, b}[i]; !slices.Equal(l, want) || !slices.Equal(l[:len(l)+3][len(l):], []string{"room", "behind", "it"}) {
				t.Fatalf("%q became %q", want, l[:len(l)+3])
			}
		}
	}
	for _, v := range []api.Value{shopMap(), shopMapWith("scope", text("b a")), shopMapWith("exp", whole(0)), shopMapWith("aud", list(text("api")))} {
		in := v
		in.Keys, in.Items = append(slices.Clone(v.Keys), "room")[:9], append(slices.Clone(v.Items), text("room"))[:9]
		claim.Of(in)
		if !same(in, v) || in.Keys[:10][9] != "room" || !same(in.Items[:10][9], text("room")) {
			t.Errorf("%v became %v", v, in)
		}
	}
}

// TestP6_7Lists: lists that are told have nothing in common with what was handed in, nor with one another.
func TestP6_7Lists(t *testing.T) {
	r := rand.New(rand.NewSource(9))
	for range 1000 {
		a, b := drawLists(r)
		x, y := roomy(a), roomy(b)
		want, got, again := everyList(a, b), everyList(x, y), everyList(x, y)
		for i := range again {
			spoil(again[i])
		}
		if !slices.Equal(x, a) || !slices.Equal(y, b) {
			t.Fatalf("%q and %q went with what was told of them", a, b)
		}
		spoil(x)
		spoil(y)
		for i := range got {
			if !slices.Equal(got[i], want[i]) {
				t.Fatalf("answer %d of %q and %q went with another list: %q", i, a, b, got[i])
			}
			spoil(got[i])
		}
	}
}

// TestP6_7Claims: so have claims and maps.
func TestP6_7Claims(t *testing.T) {
	r := rand.New(rand.NewSource(10))
	for range 1000 {
		c := drawClaims(r)
		in := c
		in.Scopes = roomy(c.Scopes)
		v, _ := claim.Map(in)
		other, _ := claim.Map(in)
		spoil(in.Scopes)
		spoilValue(other)
		first, e := claim.Of(v)
		second, _ := claim.Of(v)
		if e != api.OK || !alike(first, c) {
			t.Fatalf("the map of %v went with what it was made of: %v, %d", c, first, e)
		}
		spoil(second.Scopes)
		spoilValue(v)
		if !alike(first, c) {
			t.Fatalf("the claims %v went with their map: %v", c, first)
		}
	}
	if v, e := claim.Map(shop()); e != api.OK || !same(v, shopMap()) {
		t.Errorf("Map behind all that: %v, %d", v, e)
	}
}

// TestP6_7Place: the same memory with other contents is another list.
func TestP6_7Place(t *testing.T) {
	l := []string{"b", "a"}
	c := shopBut(func(c *api.Claims) { c.Scopes = l })
	wantCheck(t, "b a", c, api.ErrClaimScope)
	if !claim.Within([]string{"b"}, l) {
		t.Error("b is not within b, a")
	}
	l[0], l[1] = "c", "d"
	wantCheck(t, "c d", c, api.OK)
	if claim.Within([]string{"b"}, l) {
		t.Error("b is within c, d")
	}
	wantSet(t, l)
	v := shopMap()
	wantOf(t, "the example", v, api.OK)
	v.Items[place("scope")].Text = "b a"
	wantOf(t, "the same map with b a", v, api.ErrClaimForm)
}

// TestP6_7Ends: every call ends, without a panic, whatever is handed in.
func TestP6_7Ends(t *testing.T) {
	long := strings.Repeat("\xff", 1<<20)
	texts := []string{"", "a", " ", "\x00", "\xff", "é", long, strings.Repeat(" ", 1<<20), strings.Repeat("a", 1<<20)}
	for _, s := range texts {
		wantName(t, s, wantedName(s))
		wantScope(t, s, wantedScope(s))
		wantSplit(t, s)
		for _, l := range [][]string{nil, {s}, slices.Repeat([]string{s}, 20)} {
			everyList(l, texts)
			wantSet(t, l)
			wantCheck(t, "ends", shopBut(func(c *api.Claims) { c.Scopes = l }), wantedCheck(shopBut(func(c *api.Claims) { c.Scopes = l })))
		}
	}
	wantSet(t, many(1<<16))
	wantSet(t, slices.Repeat(many(16), 1<<12))
	for _, item := range []api.Value{endless(), {Kind: api.KindMap, Keys: []string{"a"}}, {Kind: api.KindText, Text: long}, {Kind: api.KindText, Items: []api.Value{endless()}}} {
		for _, key := range shopMap().Keys {
			wantOf(t, "ends", shopMapWith(key, item), api.ErrClaimForm)
		}
	}
	wantOf(t, "ends", endless(), api.ErrClaimForm)
	wantOf(t, "ends", api.Value{Kind: api.KindMap, Keys: many(1 << 16), Items: make([]api.Value, 1<<16)}, api.ErrClaimForm)
	wantOf(t, "a long good text", shopMapWith("sub", text(strings.Repeat("a", 1<<20))), api.ErrClaimName)
}

// TestP6_7Wide: a value that shares parts within itself is refused without a walk through all of them.
func TestP6_7Wide(t *testing.T) {
	v := null()
	for range 31 {
		v = list(v, v, v, v)
	}
	for _, key := range shopMap().Keys {
		wantEnd(t, shopMapWith(key, v))
	}
	wantEnd(t, v)
}

// wantEnd is wantOf without a word on the value: it is too wide to be printed.
func wantEnd(t *testing.T, v api.Value) {
	t.Helper()
	if _, e := claim.Of(v); e != api.ErrClaimForm {
		t.Errorf("Of a wide value: %d", e)
	}
}
