package engine

import (
	"strings"

	"postern/api"
	"postern/ledger"
	"postern/radix"
	"postern/ring"
)

// held is the engine whose tokens are names of the claims that t keeps.
type held struct{}

// heldFront stands ahead of a held token's ID.
const heldFront = "at_"

// idOf tells the ID whose held token a text is.
func idOf(text string) (api.ID, bool) {
	letters, begins := strings.CutPrefix(text, heldFront)
	if !begins {
		return api.ID{}, false
	}
	b, e := radix.Bytes64(letters)
	if e != api.OK || len(b) != len(api.ID{}) {
		return api.ID{}, false
	}
	return api.ID(b), true
}

func (h held) Kind() int { return kindOf(h) }

func (h held) Mint(t *ledger.Tx, c api.Claims) (string, api.Errno) {
	k, e := keyFor(t, c)
	if e != api.OK {
		return "", e
	}
	t.PutHeld(api.Held{Claims: c, Kid: k.Kid})
	return heldFront + radix.Text64(c.ID[:]), api.OK
}

func (h held) Find(t *ledger.Tx, text string) (api.Claims, bool) {
	id, fits := idOf(text)
	if !fits {
		return api.Claims{}, false
	}
	now := t.Clock()
	row, there := t.Held(id)
	if !there || row.Claims.Exp <= now {
		return api.Claims{}, false
	}
	if _, there = ring.Find(ringOf(t, now), row.Kid); !there {
		return api.Claims{}, false
	}
	return row.Claims, true
}

func (h held) Drop(t *ledger.Tx, c api.Claims) { t.DropHeld(c.ID) }

func (h held) Kill(t *ledger.Tx, g api.Grant) {
	sweep(t, func(r api.Held) bool { return r.Claims.Grant == g.N })
}

func (h held) Forget(t *ledger.Tx, kid uint64) {
	sweep(t, func(r api.Held) bool { return r.Kid == kid })
}

// sweep drops the rows that go.
func sweep(t *ledger.Tx, goes func(api.Held) bool) {
	for _, r := range t.Helds() {
		if goes(r) {
			t.DropHeld(r.Claims.ID)
		}
	}
}
