package engine

import (
	"postern/api"
	"postern/claim"
	"postern/ledger"
	"postern/ring"
)

// kindOf tells which of the two an engine is.
func kindOf(e Engine) int {
	switch e.(type) {
	case sealed:
		return api.EngineSealed
	case held:
		return api.EngineHeld
	}
	return api.EngineNone
}

// ringOf tells the ring: the keys that are there at a time.
func ringOf(t *ledger.Tx, now int64) api.Ring { return ring.Prune(t.Ring(), now) }

// keyFor tells the key by which claims are minted, in either engine; or why they can't be.
func keyFor(t *ledger.Tx, c api.Claims) (api.Key, api.Errno) {
	if e := claim.Check(c); e != api.OK {
		return api.Key{}, e
	}
	now := t.Clock()
	k, there := ring.Current(ringOf(t, now))
	if !there {
		return api.Key{}, api.ErrSealKid
	}
	return k, api.OK
}
