package engine

import (
	"strings"

	"postern/api"
	"postern/ledger"
	"postern/revoke"
	"postern/seal"
)

// sealed is the engine whose tokens say their claims themselves: what t keeps of them is what is revoked.
type sealed struct{}

// Between a sealed token's three parts stand two dots.
const (
	dot  = "."
	dots = 2
)

// mayBeSealed tells whether a text has a sealed token's form; what its parts are only seal.Open asks.
func mayBeSealed(text string) bool {
	return len(text) <= api.MaxToken && strings.Count(text, dot) == dots
}

func (s sealed) Kind() int { return kindOf(s) }

func (s sealed) Mint(t *ledger.Tx, c api.Claims) (string, api.Errno) {
	k, e := keyFor(t, c)
	if e != api.OK {
		return "", e
	}
	text, e := seal.Mint(k, c)
	if e != api.OK {
		return "", e
	}
	if g, there := t.Grant(c.Grant); there && c.Exp > g.Sealed {
		g.Sealed = c.Exp
		t.PutGrant(g)
	}
	return text, api.OK
}

func (s sealed) Find(t *ledger.Tx, text string) (api.Claims, bool) {
	if Form(text) != s.Kind() {
		return api.Claims{}, false
	}
	now := t.Clock()
	// The list ahead of the ring: behind a list that can't be read t tells no ring, so nothing is taken that it may have revoked.
	list := listOf(t, now)
	c, e := seal.Open(ringOf(t, now), text)
	if e != api.OK || c.Exp <= now || revoke.Has(list, c.Grant, c.ID) {
		return api.Claims{}, false
	}
	return c, true
}

func (s sealed) Drop(t *ledger.Tx, c api.Claims) {
	if now := t.Clock(); c.Exp > now {
		t.SetRevoked(revoke.Add(listOf(t, now), c.Grant, c.ID, c.Exp))
	}
}

func (s sealed) Kill(t *ledger.Tx, g api.Grant) {
	if now := t.Clock(); g.Sealed > now {
		t.SetRevoked(revoke.Kill(listOf(t, now), g.N, g.Sealed))
	}
}

// Forget has nothing to do: what a key has sealed is not opened any more, once the key has left the ring.
func (s sealed) Forget(t *ledger.Tx, kid uint64) {}

// listOf tells the list: what is revoked, and not expired at a time.
func listOf(t *ledger.Tx, now int64) []api.Revoked { return revoke.Prune(t.Revoked(), now) }
