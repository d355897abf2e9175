package ledger

import (
	"bytes"

	"postern/api"
)

// kind is how the rows of one type stand in the store.
type kind[R any] struct {
	letter byte
	beside func(*R) field // what stands beside the letter in a row's key
	form   func(*R) field
}

// alone is beside the letter of a kind that has one row.
func alone[R any](*R) field { return fields() }

// key tells a row's key. It has no bytes, and nothing stands there, if a text of it can't be laid.
func (k kind[R]) key(r R) []byte {
	letter := uint64(k.letter)
	return lay(number(&letter, width1), k.beside(&r))
}

// row tells the row that a pair is, if it is one.
func (k kind[R]) row(key, value []byte) (R, bool) {
	var r, none R
	if !take(value, k.form(&r)) || !bytes.Equal(key, k.key(r)) {
		return none, false
	}
	return r, true
}

// is tells whether a pair is a row of this kind.
func (k kind[R]) is(key, value []byte) bool {
	_, good := k.row(key, value)
	return good
}

// get tells the row that has the key of r.
func get[R any](t *Tx, k kind[R], r R) (R, bool) {
	var none R
	key := k.key(r)
	value, there := t.Get(key)
	if !there {
		return none, false
	}
	r, good := k.row(key, value)
	if !good {
		t.fail(api.ErrLedgerBad)
	}
	return r, good
}

// only tells the row of a kind that has one; the zero one, if it was never set.
func only[R any](t *Tx, k kind[R]) R {
	var none R
	r, _ := get(t, k, none)
	return r
}

// list tells all rows of a kind, by their keys.
func list[R any](t *Tx, k kind[R]) []R {
	var l []R
	for key, value := range t.Range([]byte{k.letter}) {
		r, good := k.row(key, value)
		if !good {
			t.fail(api.ErrLedgerBad)
			return nil
		}
		l = append(l, r)
	}
	return l
}

// put lays a row. What a row may be is asked where it is read: so it must be one as a pair.
func put[R any](t *Tx, k kind[R], r R) {
	key, value := k.key(r), lay(k.form(&r))
	if !k.is(key, value) || t.Put(key, value) != api.OK {
		t.fail(api.ErrLedgerRow)
	}
}

// drop takes away what has the key of r, be it a row or not.
func drop[R any](t *Tx, k kind[R], r R) bool { return t.Delete(k.key(r)) }
