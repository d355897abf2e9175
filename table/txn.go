package table

import (
	"bytes"
	"iter"
	"maps"
	"slices"
	"strings"

	"postern/api"
	"postern/store"
)

// Txn is a transaction: it sees the store and its own changes.
type Txn struct {
	store *store.Store
	noted map[string]note // also what the store tells already: another transaction may change that
	over  bool
}

// note is what was noted of a key last: a value, or that the key is gone. A value's bytes are never written to: another value is another note.
type note struct {
	value []byte
	gone  bool
}

// Begin begins one.
func Begin(s *store.Store) *Txn { return &Txn{store: s, noted: map[string]note{}} }

// Get tells a key's value; Range the pairs beneath a prefix, in order.
func (t *Txn) Get(key []byte) ([]byte, bool) {
	if t.over {
		return nil, false
	}
	if n, there := t.noted[string(key)]; there {
		return bytes.Clone(n.value), !n.gone
	}
	return t.store.Get(key)
}

func (t *Txn) Range(prefix []byte) iter.Seq2[[]byte, []byte] {
	beneath := string(prefix)
	return func(yield func([]byte, []byte) bool) {
		// All of it ahead of the first pair: the body may note something, or end the transaction.
		seen := t.seen(beneath)
		for _, key := range slices.Sorted(maps.Keys(seen)) {
			if !yield([]byte(key), seen[key]) {
				return
			}
		}
	}
}

// Put notes a key's value; Delete that the key is gone, and tells whether it was there.
func (t *Txn) Put(key, value []byte) api.Errno {
	switch {
	case t.over:
		return api.ErrTableEnd
	case len(key) < 1 || len(key) > api.MaxKey:
		return api.ErrStoreKey
	case len(value) > api.MaxValue:
		return api.ErrStoreValue
	}
	t.noted[string(key)] = note{value: bytes.Clone(value)}
	return api.OK
}

func (t *Txn) Delete(key []byte) bool {
	_, there := t.Get(key)
	if there {
		t.noted[string(key)] = note{gone: true}
	}
	return there
}

// Changes tells what Commit would do; Commit does it, all or nothing, and ends it; Drop ends it.
func (t *Txn) Changes() []api.Change {
	var l []api.Change
	for _, key := range slices.Sorted(maps.Keys(t.noted)) {
		n := t.noted[key]
		value, there := t.store.Get([]byte(key))
		if there == n.gone || !bytes.Equal(value, n.value) {
			l = append(l, api.Change{Key: []byte(key), Value: bytes.Clone(n.value), Gone: n.gone})
		}
	}
	return l
}

func (t *Txn) Commit() api.Errno {
	if t.over {
		return api.ErrTableEnd
	}
	s, l := t.store, t.Changes()
	t.Drop()
	// A store that is off refuses the empty batch, too.
	if len(l) == 0 {
		return api.OK
	}
	return s.Commit(l)
}

func (t *Txn) Drop() { *t = Txn{over: true} }

// seen tells the values that the transaction sees under the keys that begin with a prefix.
func (t *Txn) seen(prefix string) map[string][]byte {
	seen := map[string][]byte{}
	if t.over {
		return seen
	}
	for key, value := range t.store.Range([]byte(prefix), behind(prefix)) {
		seen[string(key)] = value
	}
	for key, n := range t.noted {
		switch {
		case !strings.HasPrefix(key, prefix):
		case n.gone:
			delete(seen, key)
		default:
			seen[key] = bytes.Clone(n.value)
		}
	}
	return seen
}

// behind tells the first key that stands behind all that begin with a prefix; none, if all keys from the prefix on do.
func behind(prefix string) []byte {
	for n := len(prefix) - 1; n >= 0; n-- {
		if prefix[n] < 0xff {
			return append([]byte(prefix[:n]), prefix[n]+1)
		}
	}
	return nil
}
