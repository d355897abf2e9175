package ledger_test

import (
	"testing"

	"postern/api"
	"postern/ledger"
	"postern/store"
)

// TestP13_1Begin: a new one has changed nothing, and sees what the store tells; its Commit writes nothing.
func TestP13_1Begin(t *testing.T) {
	d, s := started(t, wide, samples()...)
	writes, before := d.Writes(), storeOf(s)
	x := ledger.Begin(s)
	wantErrno(t, "Err", x.Err(), api.OK)
	for _, row := range samples() {
		wantRow(t, "Begin", x, row)
	}
	wantInt(t, "Changes", len(x.Changes()), 0)
	if ledger.Begin(s) == x {
		t.Error("another one is the same")
	}
	wantErrno(t, "Commit", x.Commit(), api.OK)
	wantInt(t, "writes", d.Writes(), writes)
	if storeOf(s) != before {
		t.Error("the store has changed")
	}
}

// TestP13_6State: the clock, next, the shift and the rows of seven kinds, by their keys; nothing of the others.
func TestP13_6State(t *testing.T) {
	want := api.State{
		Clock:     5,
		Next:      6,
		Shift:     api.Shift{On: true, From: 1, To: 2, Cursor: 3, Epoch: 4},
		Users:     []api.User{{Name: "b"}, {Name: "aa", Salt: id(1)}},
		Clients:   []api.Client{{ID: "c"}, {ID: "bb", Scopes: []string{"x"}}},
		Consents:  []api.Consent{{User: "b", Client: "c"}, {User: "b", Client: "bb", Scopes: []string{"x"}}, {User: "aa"}},
		Sessions:  []api.Session{{ID: id(1), Exp: 9}, {ID: id(2), User: "b", Exp: 1}},
		Codes:     []api.Code{{ID: id(3), Exp: 9}, {ID: id(4), User: "b", Exp: 1}},
		Grants:    []api.Grant{{N: 2, Live: true}, {N: 10, Scopes: []string{"x"}}},
		Refreshes: []api.Refresh{{ID: id(5), Exp: 9}, {ID: id(6), Grant: 2}},
	}
	_, s := started(t, wide, revoked{{Exp: 1}}, api.Ring{Next: 3}, api.Config{Access: 1}, heldOf(id(7)))
	x := ledger.Begin(s)
	x.SetClock(want.Clock)
	x.SetNext(want.Next)
	x.SetShift(want.Shift)
	for i := range 3 { // from the last to the first
		x.PutConsent(want.Consents[2-i])
	}
	for i := 1; i >= 0; i-- {
		for _, row := range []any{want.Users[i], want.Clients[i], want.Sessions[i], want.Codes[i], want.Grants[i], want.Refreshes[i]} {
			put(x, row)
		}
	}
	wantSame(t, "its own", x.State(), want)
	wantErrno(t, "Commit", x.Commit(), api.OK)
	x = ledger.Begin(s)
	wantSame(t, "committed", x.State(), want)
	x.DropUser("b")
	x.SetClock(-1)
	want.Users, want.Clock = want.Users[1:], -1
	wantSame(t, "changed", x.State(), want)
	wantErrno(t, "Err", x.Err(), api.OK)
}

// TestP13_7Commit: all changes are one batch, and it is over; so it is behind Drop, with none.
func TestP13_7Commit(t *testing.T) {
	d, s := started(t, wide)
	writes := d.Writes()
	x := ledger.Begin(s)
	for _, row := range samples() {
		put(x, row)
	}
	wantInt(t, "ahead of it", s.Len(), 0)
	wantErrno(t, "Commit", x.Commit(), api.OK)
	wantInt(t, "writes", d.Writes(), writes+1)
	_, want := started(t, wide, samples()...)
	after := storeOf(want)
	if storeOf(s) != after {
		t.Errorf("%s, not %s", storeOf(s), after)
	}
	wantOver(t, "Commit", x)
	x = ledger.Begin(s)
	for _, row := range samples() {
		put(x, changed(row))
	}
	x.Drop()
	wantOver(t, "Drop", x)
	if storeOf(s) != after {
		t.Error("Drop has changed the store")
	}
}

// TestP13_7Errors: the store's errors are handed on; then nothing has changed, and it is over all the same.
func TestP13_7Errors(t *testing.T) {
	_, s := started(t, api.Limits{Pairs: 1, Weight: 1 << 20, Log: 1 << 20}, clock(1))
	before := storeOf(s)
	x := ledger.Begin(s)
	x.SetClock(2)
	x.SetNext(3)
	wantErrno(t, "two pairs", x.Commit(), api.ErrStoreFull)
	wantOver(t, "two pairs", x)
	if storeOf(s) != before {
		t.Error("two pairs have changed the store")
	}
	x = ledger.Begin(s)
	for n := range uint64(1<<14 + 1) {
		x.PutGrant(api.Grant{N: n})
	}
	wantErrno(t, "many grants", x.Err(), api.OK)
	wantErrno(t, "many grants", x.Commit(), api.ErrStoreBatch)
	wantOver(t, "many grants", x)
	if storeOf(s) != before {
		t.Error("many grants have changed the store")
	}
}

// TestP13_7Power: of a Commit at which the power goes all is there when it is on again, or nothing.
func TestP13_7Power(t *testing.T) {
	told := map[string]int{}
	for keep := range 220 {
		d, s := started(t, wide, clock(1), api.Grant{N: 1}, heldOf(id(1)))
		x := ledger.Begin(s)
		x.SetClock(2)
		x.DropGrant(1)
		x.PutSession(api.Session{User: "ann", Exp: 9})
		x.SetRevoked([]api.Revoked{{Grant: 1, Exp: 7}})
		d.Arm(1, keep)
		wantErrno(t, "Commit", x.Commit(), api.ErrStoreOff)
		wantErrno(t, "Err", x.Err(), api.ErrTableEnd)
		x = ledger.Begin(s)
		wantInt(t, "off", int(x.Clock()), 1)
		wantErrno(t, "nothing to commit", x.Commit(), api.OK)
		x = ledger.Begin(s)
		x.SetClock(3)
		wantErrno(t, "off", x.Commit(), api.ErrStoreOff)
		d.On()
		s, e := store.Open(d, wide)
		wantErrno(t, "Open", e, api.OK)
		told[storeOf(s)]++
	}
	_, before := started(t, wide, clock(1), api.Grant{N: 1}, heldOf(id(1)))
	_, after := started(t, wide, clock(2), heldOf(id(1)), api.Session{User: "ann", Exp: 9}, revoked{{Grant: 1, Exp: 7}})
	if len(told) != 2 || told[storeOf(before)] == 0 || told[storeOf(after)] == 0 {
		t.Errorf("%v", told)
	}
}

// TestP13_7Off: reading goes on where the store is off.
func TestP13_7Off(t *testing.T) {
	d, s := started(t, wide, samples()...)
	d.Arm(1, 0)
	x := ledger.Begin(s)
	x.SetClock(1)
	wantErrno(t, "Commit", x.Commit(), api.ErrStoreOff)
	x = ledger.Begin(s)
	for _, row := range samples() {
		wantRow(t, "off", x, row)
	}
	wantBool(t, "Rows", x.Rows(), true)
	wantErrno(t, "Err", x.Err(), api.OK)
}
