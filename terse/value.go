package terse

import (
	"slices"
	"strings"

	"postern/api"
)

// check holds a value, and then its items, against what a tree is; about is how many lists and maps stand about it.
func check(v api.Value, about int) api.Errno {
	if e := checkAlone(v, about); e != api.OK {
		return e
	}
	for _, item := range v.Items {
		if e := check(item, about+1); e != api.OK {
			return e
		}
	}
	return api.OK
}

// checkAlone is check without the items.
func checkAlone(v api.Value, about int) api.Errno {
	switch {
	case hasItems(v.Kind) && about >= api.MaxDepth:
		return api.ErrTerseDeep
	case v.Kind < api.KindNull || v.Kind > api.KindMap || !unusedAreZero(v):
		return api.ErrTerseKind
	case !Good(v.Text) || !allGood(v.Keys):
		return api.ErrTerseText
	case v.Kind == api.KindMap && !keysFit(v):
		return api.ErrTerseKey
	}
	return api.OK
}

func hasItems(kind int) bool { return kind == api.KindList || kind == api.KindMap }

// unusedAreZero tells whether a value has nothing in the fields that its kind does not use.
func unusedAreZero(v api.Value) bool {
	return (!v.Flag || v.Kind == api.KindBool) &&
		(v.N == 0 || v.Kind == api.KindInt) &&
		(v.Text == "" || v.Kind == api.KindText) &&
		(len(v.Keys) == 0 || v.Kind == api.KindMap) &&
		(len(v.Items) == 0 || hasItems(v.Kind))
}

func allGood(keys []string) bool {
	for _, key := range keys {
		if !Good(key) {
			return false
		}
	}
	return true
}

// keysFit tells whether a map has as many keys as items, and no key twice.
func keysFit(v api.Value) bool {
	return len(v.Keys) == len(v.Items) && len(v.Keys) == len(places(v.Keys))
}

// places tells where each key stands; of keys that are alike it knows one.
func places(keys []string) map[string]int {
	at := make(map[string]int, len(keys))
	for i, key := range keys {
		at[key] = i
	}
	return at
}

// equal is Equal for trees.
func equal(a, b api.Value) bool {
	if a.Kind != b.Kind || len(a.Items) != len(b.Items) {
		return false
	}
	switch a.Kind {
	case api.KindList:
		return slices.EqualFunc(a.Items, b.Items, equal)
	case api.KindMap:
		return equalMaps(a, b)
	}
	return a.Flag == b.Flag && a.N == b.N && a.Text == b.Text
}

// equalMaps is equal for maps of as many items: as no key stands twice, it is enough that b has those of a.
func equalMaps(a, b api.Value) bool {
	at := places(b.Keys)
	for i, key := range a.Keys {
		j, has := at[key]
		if !has || !equal(a.Items[i], b.Items[j]) {
			return false
		}
	}
	return true
}

// clone tells a tree that shares no memory with the one that is handed in.
func clone(v api.Value) api.Value {
	out := v
	out.Text = strings.Clone(v.Text)
	out.Keys, out.Items = nil, nil
	for _, key := range v.Keys {
		out.Keys = append(out.Keys, strings.Clone(key))
	}
	for _, item := range v.Items {
		out.Items = append(out.Items, clone(item))
	}
	return out
}
