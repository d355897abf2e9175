package ledger

import (
	"slices"

	"postern/api"
)

// Expire drops all that is expired, and every grant that is not held; how many rows, entries and keys.
func (t *Tx) Expire() int {
	now := t.Clock()
	sessions, codes, refreshes, helds, grants := t.Sessions(), t.Codes(), t.Refreshes(), t.Helds(), t.Grants()
	keys, entries := t.Ring(), t.Revoked()
	if t.err != api.OK {
		return 0
	}
	gone := func(exp int64) bool { return exp <= now }
	n := sweep(t, sessionRows(), sessions, func(r api.Session) bool { return gone(r.Exp) })
	n += sweep(t, codeRows(), codes, func(r api.Code) bool { return gone(r.Exp) })
	n += sweep(t, refreshRows(), refreshes, func(r api.Refresh) bool { return gone(r.Exp) })
	n += sweep(t, heldRows(), helds, func(r api.Held) bool { return gone(r.Claims.Exp) })
	n += sweep(t, grantRows(), grants, func(r api.Grant) bool { return gone(r.Last) && (!r.Live || gone(r.Exp)) })
	n += t.sweepRing(keys, func(k api.Key) bool { return k.Until != 0 && gone(k.Until) })
	return n + t.sweepRevoked(entries, func(r api.Revoked) bool { return gone(r.Exp) })
}

// sweep drops those rows that have gone, and tells how many they were.
func sweep[R any](t *Tx, k kind[R], l []R, gone func(R) bool) int {
	n := 0
	for _, r := range l {
		if gone(r) {
			drop(t, k, r)
			n++
		}
	}
	return n
}

func (t *Tx) sweepRing(r api.Ring, gone func(api.Key) bool) int {
	n := len(r.Keys)
	r.Keys = slices.DeleteFunc(r.Keys, gone)
	if n -= len(r.Keys); n > 0 {
		t.SetRing(r)
	}
	return n
}

func (t *Tx) sweepRevoked(l []api.Revoked, gone func(api.Revoked) bool) int {
	n := len(l)
	l = slices.DeleteFunc(l, gone)
	if n -= len(l); n > 0 {
		t.SetRevoked(l)
	}
	return n
}
