package shift_test

import (
	"testing"

	"postern/api"
	"postern/disk"
	"postern/ledger"
	"postern/shift"
	"postern/store"
)

// calls tells each call that may read or change something.
func calls() map[string]func(x *ledger.Tx) {
	return map[string]func(x *ledger.Tx){
		"Begin": func(x *ledger.Tx) { shift.Begin(x, held) },
		"Step":  func(x *ledger.Tx) { shift.Step(x, 1) },
		"Mints": func(x *ledger.Tx) { shift.Mints(x) },
	}
}

// laid tells a disk and a store whose ledger has a Shift, three grants that go, and rows that are expired.
func laid(t *testing.T, x api.Shift) (*disk.Disk, *store.Store) {
	t.Helper()
	d, s := started(t)
	tx := ledger.Begin(s)
	tx.SetClock(1 << 20)
	tx.SetShift(x)
	for _, g := range append(grants(3, x.From), dead(4, x.From)) {
		tx.PutGrant(g)
	}
	tx.PutSession(api.Session{ID: id(1), Exp: 5})
	tx.PutHeld(api.Held{Claims: api.Claims{Grant: 1, ID: id(2), Exp: 5}})
	tx.SetRevoked([]api.Revoked{{Grant: 1, Exp: 5}})
	wantErrno(t, "Commit", tx.Commit(), api.OK)
	return d, s
}

// TestP16_5Ends: no call commits, drops or expires: the store is as it was, until t is committed.
func TestP16_5Ends(t *testing.T) {
	for _, row := range []struct {
		what string
		x    api.Shift
		keys []string
	}{
		{"Begin", api.Shift{From: sealed}, []string{shiftKey}},
		{"Step", on(sealed, held, 0), []string{grantKey(1), shiftKey}},
		{"Step", on(sealed, held, 3), []string{shiftKey}},
		{"Step", api.Shift{From: sealed}, nil},
		{"Mints", on(sealed, held, 0), nil},
	} {
		d, s := laid(t, row.x)
		before, writes := pairsOf(ledger.Begin(s)), d.Writes()
		x := ledger.Begin(s)
		doing(t, row.what, x, func() { calls()[row.what](x) }, row.keys...)
		if got := differing(before, pairsOf(ledger.Begin(s))); len(got) > 0 || d.Writes() != writes {
			t.Errorf("%s: the store has changed: %q", row.what, got)
		}
		wantErrno(t, row.what+": Commit", x.Commit(), api.OK)
		wantSame(t, row.what+": committed", differing(before, pairsOf(ledger.Begin(s))), row.keys)
	}
}

// TestP16_5Apart: two transactions over one store, and two ledgers, have nothing in common but what was committed.
func TestP16_5Apart(t *testing.T) {
	_, s := laid(t, api.Shift{From: sealed})
	_, far := laid(t, api.Shift{From: sealed})
	x, y, z := ledger.Begin(s), ledger.Begin(s), ledger.Begin(far)
	wantBegin(t, "x", x, held, api.OK)
	wantStep(t, "x", x, 2, 1, 2)
	for what, other := range map[string]*ledger.Tx{"y": y, "z": z} {
		wantRefused(t, what, other, 2, api.ErrShiftOff)
		wantMints(t, what, other, sealed)
		wantBegin(t, what, other, held, api.OK)
		wantStep(t, what, other, 1, 1)
	}
	wantStep(t, "x", x, 2, 3)
}

// TestP16_5Told: grants that were handed in or told before are not written into.
func TestP16_5Told(t *testing.T) {
	g := grant(1, sealed)
	x := begun(t, on(sealed, held, 0), g)
	told, list := x.Grants(), g.Scopes
	wantStep(t, "Step", x, 1, 1)
	wantSame(t, "what was put", g, grant(1, sealed))
	wantSame(t, "what was told", told, []api.Grant{grant(1, sealed)})
	list[0], told[0].Scopes[0] = "spoilt", "spoilt"
	wantSame(t, "what stands", x.Grants(), []api.Grant{grant(1, held)})
}

// TestP16_5Over: behind t's end, or its first error, nothing is told of the ledger, and nothing is changed.
func TestP16_5Over(t *testing.T) {
	for what, row := range map[string]struct {
		end  func(x *ledger.Tx)
		want api.Errno
	}{
		"dropped":   {func(x *ledger.Tx) { x.Drop() }, api.ErrTableEnd},
		"committed": {func(x *ledger.Tx) { x.Commit() }, api.ErrTableEnd},
		"failed":    {func(x *ledger.Tx) { x.SetShift(api.Shift{To: 256}) }, api.ErrLedgerRow},
	} {
		_, s := laid(t, on(sealed, held, 0))
		before := pairsOf(ledger.Begin(s))
		x := ledger.Begin(s)
		row.end(x)
		wantErrno(t, what, shift.Begin(x, 3), api.ErrEngineKind)
		for range 2 {
			moved, ended, e := shift.Step(x, 1)
			wantSame(t, what, []any{moved, ended, e, shift.Mints(x)}, []any{0, false, api.ErrShiftOff, api.EngineNone})
			shift.Begin(x, held)
			wantErrno(t, what+": Err", x.Err(), row.want)
		}
		if got := differing(before, pairsOf(ledger.Begin(s))); len(got) > 0 {
			t.Errorf("%s: %q have changed", what, got)
		}
	}
}
