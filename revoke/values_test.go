package revoke_test

import (
	"math"
	"math/rand"
	"slices"
	"testing"

	"postern/api"
	"postern/revoke"
)

const (
	top   = math.MaxUint64
	last  = math.MaxInt64
	first = math.MinInt64
)

// The IDs of the tests, in order: they part at the first byte, in the midst and at the last one.
var (
	none = api.ID{}
	low  = api.ID{15: 1}
	mid  = api.ID{7: 1}
	a    = api.ID{1}
	a2   = api.ID{0: 1, 15: 255}
	b    = api.ID{2}
	high = api.ID{255, 255, 255, 255, 255, 255, 255, 255, 255, 255, 255, 255, 255, 255, 255, 255}
)

func someIDs() []api.ID { return []api.ID{none, low, mid, a, a2, b, high} }

func someGrants() []uint64 { return []uint64{0, 1, 6, 7, 8, 255, 256, 1 << 63, top} }

func someTimes() []int64 {
	return []int64{first, first + 1, -1, 0, 1, 39, 40, 41, 50, 55, last - 1, last}
}

func token(grant uint64, id api.ID, exp int64) api.Revoked {
	return api.Revoked{Grant: grant, ID: id, Exp: exp}
}

func whole(grant uint64, exp int64) api.Revoked {
	return api.Revoked{Whole: true, Grant: grant, Exp: exp}
}

func list(entries ...api.Revoked) []api.Revoked { return entries }

func goodLists() map[string][]api.Revoked {
	return map[string][]api.Revoked{
		"none":                    nil,
		"empty":                   {},
		"a token's":               list(token(7, a, 40)),
		"a zero entry":            list(token(0, none, 0)),
		"a zero ID":               list(token(7, none, 40), token(7, a, 41)),
		"a whole grant's":         list(whole(7, 40)),
		"the whole grant 0":       list(whole(0, 40)),
		"the whole last grant":    list(whole(top, first)),
		"wholes":                  list(whole(6, 40), whole(7, 30), whole(8, 50)),
		"two of a grant":          list(token(7, a, 50), token(7, b, 40)),
		"a whole between":         list(token(6, b, 40), whole(7, 50), token(8, a, 55)),
		"IDs that fall by grants": list(token(6, high, 1), token(7, b, 2), token(8, a, 3), token(9, none, 4)),
		"all IDs":                 ofGrant(7),
		"grants far apart":        list(token(1, a, 0), whole(255, -1), token(256, a, last), token(1<<63, a, first), token(top, high, 9)),
	}
}

// ofGrant tells the entries of all the tests' IDs.
func ofGrant(grant uint64) []api.Revoked {
	var l []api.Revoked
	for i, id := range someIDs() {
		l = append(l, token(grant, id, int64(40+i)))
	}
	return l
}

func noLists() map[string][]api.Revoked {
	return map[string][]api.Revoked{
		"IDs that fall":                list(token(7, b, 40), token(7, a, 40)),
		"IDs that fall at the end":     list(token(7, a2, 40), token(7, a, 40)),
		"the same twice":               list(token(7, a, 40), token(7, a, 40)),
		"the same with two times":      list(token(7, a, 40), token(7, a, 41)),
		"the same, other between":      list(token(7, a, 40), token(7, b, 40), token(7, a, 40)),
		"a whole with an ID":           list(api.Revoked{Whole: true, Grant: 7, ID: a, Exp: 40}),
		"a whole with a last byte":     list(api.Revoked{Whole: true, Grant: 7, ID: low, Exp: 40}),
		"a whole with an ID, behind":   list(token(6, a, 40), api.Revoked{Whole: true, Grant: 7, ID: high, Exp: 40}),
		"a whole ahead of a token":     list(whole(7, 40), token(7, a, 40)),
		"a whole behind a token":       list(token(7, a, 40), whole(7, 40)),
		"a whole behind a zero ID":     list(token(7, none, 40), whole(7, 40)),
		"a whole ahead of a zero ID":   list(whole(7, 40), token(7, none, 40)),
		"a whole twice":                list(whole(7, 40), whole(7, 50)),
		"grants that fall":             list(token(8, a, 40), token(7, b, 40)),
		"grants that fall by much":     list(token(top, a, 40), token(0, b, 40)),
		"wholes that fall":             list(whole(8, 40), whole(7, 40)),
		"a grant that comes again":     list(token(7, a, 40), token(8, a, 40), token(7, b, 40)),
		"a fault at the end":           append(ofGrant(7), token(6, a, 40)),
		"a fault at the beginning":     append(list(token(8, a, 40)), ofGrant(7)...),
		"a grant as if of fewer bytes": list(token(256, a, 40), token(255, a, 40)),
		"a grant as if below 0":        list(token(1<<63, a, 40), token(1, a, 40)),
	}
}

// isList says by the chapter's words whether it is a list: each entry is held against all that stand behind it.
func isList(l []api.Revoked) bool {
	for i, x := range l {
		if x.Whole && x.ID != none {
			return false
		}
		for _, y := range l[i+1:] {
			switch {
			case x.Grant > y.Grant,
				x.Grant == y.Grant && (x.Whole || y.Whole),
				x.Grant == y.Grant && string(x.ID[:]) >= string(y.ID[:]):
				return false
			}
		}
	}
	return true
}

// one is what a model knows an entry by.
type one struct {
	grant uint64
	id    api.ID
}

// model knows what is revoked by a table, and no order.
type model struct {
	tokens map[one]int64
	wholes map[uint64]int64
}

func modelOf(l []api.Revoked) model {
	m := model{map[one]int64{}, map[uint64]int64{}}
	for _, r := range l {
		if r.Whole {
			m.wholes[r.Grant] = r.Exp
		} else {
			m.tokens[one{r.Grant, r.ID}] = r.Exp
		}
	}
	return m
}

func (m model) add(grant uint64, id api.ID, exp int64) {
	if _, there := m.wholes[grant]; there {
		return
	}
	if old, there := m.tokens[one{grant, id}]; !there || old < exp {
		m.tokens[one{grant, id}] = exp
	}
}

func (m model) kill(grant uint64, exp int64) {
	for k := range m.tokens {
		if k.grant == grant {
			delete(m.tokens, k)
		}
	}
	if old, there := m.wholes[grant]; !there || old < exp {
		m.wholes[grant] = exp
	}
}

func (m model) has(grant uint64, id api.ID) bool {
	_, all := m.wholes[grant]
	_, this := m.tokens[one{grant, id}]
	return all || this
}

func (m model) prune(now int64) {
	for k, exp := range m.tokens {
		if exp <= now {
			delete(m.tokens, k)
		}
	}
	for k, exp := range m.wholes {
		if exp <= now {
			delete(m.wholes, k)
		}
	}
}

// list tells the model's entries by their grants' numbers and IDs as texts.
func (m model) list() []api.Revoked {
	var l []api.Revoked
	for k, exp := range m.tokens {
		l = append(l, token(k.grant, k.id, exp))
	}
	for grant, exp := range m.wholes {
		l = append(l, whole(grant, exp))
	}
	slices.SortFunc(l, func(x, y api.Revoked) int {
		if x.Grant != y.Grant {
			if x.Grant < y.Grant {
				return -1
			}
			return 1
		}
		if string(x.ID[:]) < string(y.ID[:]) {
			return -1
		}
		return 1
	})
	return l
}

// shaken tells some list: grants and IDs of few kinds, so that they meet.
func shaken(r *rand.Rand, most int) []api.Revoked {
	m := modelOf(nil)
	for range r.Intn(most + 1) {
		if r.Intn(6) == 0 {
			m.kill(aGrant(r), aTime(r))
		} else {
			m.add(aGrant(r), anID(r), aTime(r))
		}
	}
	return m.list()
}

func aGrant(r *rand.Rand) uint64 {
	if r.Intn(4) == 0 {
		return someGrants()[r.Intn(len(someGrants()))]
	}
	return uint64(r.Intn(6))
}

func anID(r *rand.Rand) api.ID {
	if r.Intn(3) == 0 {
		return someIDs()[r.Intn(len(someIDs()))]
	}
	return api.ID{0: byte(r.Intn(3)), 5: byte(r.Intn(2)), 15: byte(r.Intn(3))}
}

func aTime(r *rand.Rand) int64 {
	if r.Intn(4) == 0 {
		return someTimes()[r.Intn(len(someTimes()))]
	}
	return int64(r.Intn(60) - 5)
}

func wantList(t *testing.T, what string, got, want []api.Revoked) {
	t.Helper()
	if !slices.Equal(got, want) {
		t.Fatalf("%s: %v, not %v", what, got, want)
	}
	if e := revoke.Check(got); e != api.OK || !isList(got) {
		t.Fatalf("%s: %v is no list: %d", what, got, e)
	}
}

func wantHas(t *testing.T, what string, l []api.Revoked, grant uint64, id api.ID, want bool) {
	t.Helper()
	if got := revoke.Has(l, grant, id); got != want {
		t.Fatalf("%s: Has(%d, %x) of %v: %v", what, grant, id, l, got)
	}
}
