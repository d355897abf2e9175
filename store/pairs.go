package store

import (
	"bytes"
	"cmp"
	"slices"

	"postern/api"
)

// Beside its key and its value a pair weighs this.
const pairWeight = 16

// pairs are values under keys, and what they weigh together. A value's bytes are never written to: another value is another slice.
type pairs struct {
	values map[string][]byte
	weight int
}

// pair is what stands under a key, or that nothing does.
type pair struct {
	key   string
	value []byte
	gone  bool
}

func noPairs() pairs { return pairs{values: map[string][]byte{}} }

func (p pair) weight() int { return len(p.key) + len(p.value) + pairWeight }

func (p *pairs) fit(l api.Limits) bool { return len(p.values) <= l.Pairs && p.weight <= l.Weight }

// put has this stand under its key, and tells what stood there.
func (p *pairs) put(now pair) pair {
	value, there := p.values[now.key]
	was := pair{key: now.key, value: value, gone: !there}
	if there {
		p.weight -= was.weight()
		delete(p.values, was.key)
	}
	if !now.gone {
		p.weight += now.weight()
		p.values[now.key] = now.value
	}
	return was
}

// carryOut does a batch's changes one behind the other, and then the last step. If the pairs behind the changes do not fit, or the last step is refused, they are as they were.
func (p *pairs) carryOut(l []api.Change, limits api.Limits, last func() api.Errno) (e api.Errno) {
	var undo []pair
	defer func() {
		if e == api.OK {
			return
		}
		for _, was := range slices.Backward(undo) {
			p.put(was)
		}
	}()
	for _, c := range l {
		undo = append(undo, p.put(pair{key: string(c.Key), value: bytes.Clone(c.Value), gone: c.Gone}))
	}
	if !p.fit(limits) {
		return api.ErrStoreFull
	}
	return last()
}

// between tells the pairs from a key up to another one, in order. A to of no bytes is behind all keys.
func (p *pairs) between(from, to string) []pair {
	var l []pair
	for key, value := range p.values {
		if key >= from && (to == "" || key < to) {
			l = append(l, pair{key: key, value: value})
		}
	}
	slices.SortFunc(l, func(a, b pair) int { return cmp.Compare(a.key, b.key) })
	return l
}
