package table_test

import (
	"maps"
	"slices"
	"strings"

	"postern/api"
)

// model is a store's pairs by the chapter's words: what is told of them, and nothing of files.
type model struct {
	pairs  map[string]string
	limits api.Limits
	off    bool
}

// txn is a transaction over a model: of each key that was noted, the value, or nil if it is gone.
type txn struct {
	m     *model
	noted map[string]*string
	over  bool
}

func (m *model) begin() *txn { return &txn{m: m, noted: map[string]*string{}} }

func (m *model) carryOut(l []api.Change) {
	for _, c := range l {
		if c.Gone {
			delete(m.pairs, string(c.Key))
		} else {
			m.pairs[string(c.Key)] = string(c.Value)
		}
	}
}

// commit carries a batch out, if the pairs behind it fit.
func (m *model) commit(l []api.Change) api.Errno {
	if m.off {
		return api.ErrStoreOff
	}
	before := maps.Clone(m.pairs)
	m.carryOut(l)
	weight := 0
	for key, value := range m.pairs {
		weight += len(key) + len(value) + 16
	}
	if len(m.pairs) > m.limits.Pairs || weight > m.limits.Weight {
		m.pairs = before
		return api.ErrStoreFull
	}
	return api.OK
}

func (m *model) line() string { return lineOfPairs(m.pairs, "") }

func lineOfPairs(pairs map[string]string, prefix string) string {
	var l []string
	for _, key := range slices.Sorted(maps.Keys(pairs)) {
		if strings.HasPrefix(key, prefix) {
			l = append(l, key+"="+pairs[key])
		}
	}
	return strings.Join(l, " ")
}

// sees tells all pairs that a transaction sees.
func (y *txn) sees() map[string]string {
	if y.over {
		return nil
	}
	pairs := maps.Clone(y.m.pairs)
	for key, value := range y.noted {
		if value == nil {
			delete(pairs, key)
		} else {
			pairs[key] = *value
		}
	}
	return pairs
}

func (y *txn) line(prefix string) string { return lineOfPairs(y.sees(), prefix) }

func (y *txn) put(key, value string) api.Errno {
	switch {
	case y.over:
		return api.ErrTableEnd
	case key == "" || len(key) > 256:
		return api.ErrStoreKey
	case len(value) > 262144:
		return api.ErrStoreValue
	}
	y.noted[key] = &value
	return api.OK
}

func (y *txn) delete(key string) bool {
	_, there := y.sees()[key]
	if there {
		y.noted[key] = nil
	}
	return there
}

func (y *txn) changes() []api.Change {
	var l []api.Change
	for _, key := range slices.Sorted(maps.Keys(y.noted)) {
		now, there := y.m.pairs[key]
		switch value := y.noted[key]; {
		case value == nil && there:
			l = append(l, api.Change{Key: []byte(key), Gone: true})
		case value != nil && (!there || now != *value):
			l = append(l, api.Change{Key: []byte(key), Value: []byte(*value)})
		}
	}
	return l
}

func (y *txn) commit() api.Errno {
	if y.over {
		return api.ErrTableEnd
	}
	l := y.changes()
	y.drop()
	if len(l) == 0 {
		return api.OK
	}
	return y.m.commit(l)
}

func (y *txn) drop() { y.over, y.noted = true, nil }
