package terse_test

import (
	"math"
	"math/rand"
	"slices"
	"strings"

	"postern/api"
)

func null() api.Value                { return api.Value{Kind: api.KindNull} }
func yes(flag bool) api.Value        { return api.Value{Kind: api.KindBool, Flag: flag} }
func whole(n int64) api.Value        { return api.Value{Kind: api.KindInt, N: n} }
func text(s string) api.Value        { return api.Value{Kind: api.KindText, Text: s} }
func list(l ...api.Value) api.Value  { return api.Value{Kind: api.KindList, Items: l} }
func pairs(l ...api.Value) api.Value { return mapOf("", l...) }

// mapOf is a map whose keys are the words of names.
func mapOf(names string, l ...api.Value) api.Value {
	return api.Value{Kind: api.KindMap, Keys: strings.Fields(names), Items: l}
}

// nest lays v into so many lists.
func nest(v api.Value, times int) api.Value {
	for range times {
		v = list(v)
	}
	return v
}

// endless is a list that is an item of itself.
func endless() api.Value {
	v := list(null(), null())
	v.Items[1] = v
	return v
}

// same holds two values against each other field by field; lists that are nil or empty are one.
func same(a, b api.Value) bool {
	return a.Kind == b.Kind && a.Flag == b.Flag && a.N == b.N && a.Text == b.Text && slices.Equal(a.Keys, b.Keys) && slices.EqualFunc(a.Items, b.Items, same)
}

// points are those about which a text's form is another one.
func points() []rune {
	l := []rune{127, 128, 0x7ff, 0x800, 0x2028, 0xd7ff, 0xe000, 0xfffd, 0xfeff, 0xffff, 0x10000, 0x1f600, 0x10ffff, '/', '"', '\\', 'é', 'z'}
	for c := range rune(34) {
		l = append(l, c)
	}
	return l
}

func drawText(r *rand.Rand) string {
	l := points()
	var b strings.Builder
	for range r.Intn(6) {
		b.WriteRune(l[r.Intn(len(l))])
	}
	return b.String()
}

func drawNumber(r *rand.Rand) int64 {
	edges := []int64{0, 1, -1, 9, 10, -10, math.MaxInt64, math.MinInt64, math.MinInt64 + 1}
	if r.Intn(2) == 0 {
		return edges[r.Intn(len(edges))]
	}
	return int64(r.Uint64()) >> r.Intn(64)
}

// drawTree tells some tree in which at most so many lists and maps stand in one another.
func drawTree(r *rand.Rand, depth int) api.Value {
	kind := 1 + r.Intn(6)
	if depth == 0 {
		kind = 1 + r.Intn(4)
	}
	switch kind {
	case api.KindNull:
		return null()
	case api.KindBool:
		return yes(r.Intn(2) == 0)
	case api.KindInt:
		return whole(drawNumber(r))
	case api.KindText:
		return text(drawText(r))
	}
	v := api.Value{Kind: kind}
	for range r.Intn(5) {
		key := drawText(r)
		if kind == api.KindMap && slices.Contains(v.Keys, key) {
			continue
		}
		if kind == api.KindMap {
			v.Keys = append(v.Keys, key)
		}
		v.Items = append(v.Items, drawTree(r, depth-1))
	}
	return v
}

func drawTrees(seed int64, n int) []api.Value {
	r := rand.New(rand.NewSource(seed))
	var l []api.Value
	for range n {
		l = append(l, drawTree(r, r.Intn(6)))
	}
	return l
}

// copyOf is a copy of its own, with room behind its lists, so that an append to what shares them would be seen.
func copyOf(v api.Value) api.Value {
	out := v
	out.Keys = append(make([]string, 0, len(v.Keys)+2), v.Keys...)
	out.Items = make([]api.Value, 0, len(v.Items)+2)
	for _, item := range v.Items {
		out.Items = append(out.Items, copyOf(item))
	}
	return out
}

// spoil overwrites all that v's lists hold, their room too.
func spoil(v api.Value) {
	for _, item := range v.Items {
		spoil(item)
	}
	keys := v.Keys[:cap(v.Keys)]
	for i := range keys {
		keys[i] = "spoilt"
	}
	items := v.Items[:cap(v.Items)]
	for i := range items {
		items[i] = text("spoilt")
	}
}
