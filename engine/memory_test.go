package engine_test

import (
	"slices"
	"testing"

	"postern/api"
	"postern/engine"
	"postern/ledger"
)

// TestP15_10HandedIn: what is handed in is neither changed nor kept, nor is the room behind it (R2).
func TestP15_10HandedIn(t *testing.T) {
	for _, kind := range kinds() {
		x := begun(t)
		c, g := example(), granted(one, 20)
		room := append(slices.Clone(c.Scopes), "room")
		c.Scopes = room[:2]
		g.Scopes = room[:2]
		text := mint(t, x, kind, c)
		for range 2 {
			wantTaken(t, "the token", x, text, example())
			wantSame(t, "the room", room, []string{"a", "b", "room"})
			room[0], room[1], room[2] = "x", "y", "z"
			wantTaken(t, "the token", x, text, example())
			row, _ := x.Grant(one)
			wantSame(t, "the grant's scopes", row.Scopes, []string{"a", "b"})
			room[0], room[1], room[2] = "a", "b", "room"
		}
		of(t, kind).Drop(x, c)
		of(t, kind).Kill(x, g)
		of(t, kind).Forget(x, 1)
		wantSame(t, "the room", room, []string{"a", "b", "room"})
		wantSame(t, "the claims", c, example())
		wantSame(t, "the grant", g, granted(one, 20))
	}
}

// TestP15_10Told: what is told is the caller's own: whoever writes into it spoils nothing.
func TestP15_10Told(t *testing.T) {
	for _, kind := range kinds() {
		x := begun(t)
		text := mint(t, x, kind, example())
		for range 3 {
			c, _ := engine.Find(x, text)
			d, _ := of(t, kind).Find(x, text)
			spoil(c.Scopes)
			wantSame(t, "another answer", d, example())
			spoil(d.Scopes)
			wantTaken(t, "the token", x, text, example())
		}
	}
}

func spoil(l []string) {
	l = l[:cap(l)]
	for i := range l {
		l[i] = "spoilt"
	}
}

// TestP15_10List: the list that t tells is not written into by who changes it.
func TestP15_10List(t *testing.T) {
	x := begun(t)
	l := []api.Revoked{entry(0, id(1), 90), entry(one, id(1), 90), entry(2, id(1), 5)}
	x.SetRevoked(l)
	of(t, api.EngineSealed).Drop(x, said(one, id(2), 20))
	of(t, api.EngineSealed).Kill(x, granted(one, 30))
	wantSame(t, "what was set", l, []api.Revoked{entry(0, id(1), 90), entry(one, id(1), 90), entry(2, id(1), 5)})
	wantList(t, "what stands", x, entry(0, id(1), 90), whole(one, 30))
}

// TestP15_10Ends: no call commits or drops its transaction, or expires anything: the store is as it was.
func TestP15_10Ends(t *testing.T) {
	d, s := started(t)
	x := ledger.Begin(s)
	x.SetClock(ten)
	x.SetRing(keys(4, key(1, 5), key(2, 15), key(3, 0)))
	x.SetRevoked([]api.Revoked{entry(9, id(1), 5)})
	x.PutGrant(granted(one, 0))
	x.PutGrant(api.Grant{N: 2, Exp: 3, Last: 3})
	x.PutHeld(api.Held{Claims: said(2, id(50), 5), Kid: 1})
	x.PutSession(api.Session{ID: id(1), Exp: 5})
	x.PutCode(api.Code{ID: id(1), Exp: 5})
	x.PutRefresh(api.Refresh{ID: id(1), Exp: 5})
	wantErrno(t, "Commit", x.Commit(), api.OK)
	before, writes := pairsOf(ledger.Begin(s)), d.Writes()
	x = ledger.Begin(s)
	for i, kind := range kinds() {
		e := of(t, kind)
		c := said(one, id(byte(i)), 20)
		text := mint(t, x, kind, c)
		wantTaken(t, "minted", x, text, c)
		e.Drop(x, said(one, id(9), 20))
		e.Kill(x, granted(7, 20))
		e.Forget(x, 99)
	}
	if got := differing(before, pairsOf(ledger.Begin(s))); len(got) > 0 || d.Writes() != writes {
		t.Errorf("the store has changed: %q", got)
	}
	got := differing(before, pairsOf(x))
	wantSame(t, "what has changed", got, []string{grantKey(one), heldKey(id(1)), listKey})
	wantErrno(t, "Commit", x.Commit(), api.OK)
	wantSame(t, "behind the Commit", differing(before, pairsOf(ledger.Begin(s))), got)
}

// nothing asks that no engine tells or changes anything, with a transaction that has an error.
func nothing(t *testing.T, what string, x *ledger.Tx, texts []string, err api.Errno) {
	t.Helper()
	for _, kind := range kinds() {
		e := of(t, kind)
		if text, bad := e.Mint(x, example()); text != "" || bad != api.ErrSealKid {
			t.Errorf("%s: Mint by %d: %q, %d", what, kind, text, bad)
		}
		if text, bad := e.Mint(x, api.Claims{}); text != "" || bad != api.ErrClaimName {
			t.Errorf("%s: Mint of no claims by %d: %q, %d", what, kind, text, bad)
		}
		for _, text := range texts {
			lost(t, x, text)
			if c, there := e.Find(x, text); there || c.Sub != "" {
				t.Errorf("%s: %d takes %q", what, kind, text)
			}
		}
		e.Drop(x, example())
		e.Kill(x, granted(one, 20))
		e.Forget(x, 1)
		wantErrno(t, what+": Err", x.Err(), err)
	}
}

// TestP15_10Over: behind the end of a transaction, or its first error, nothing is told or changed.
func TestP15_10Over(t *testing.T) {
	for what, end := range map[string]struct {
		do   func(x *ledger.Tx)
		want api.Errno
	}{
		"dropped":   {func(x *ledger.Tx) { x.Drop() }, api.ErrTableEnd},
		"committed": {func(x *ledger.Tx) { x.Commit() }, api.ErrTableEnd},
		"failed":    {func(x *ledger.Tx) { x.SetShift(api.Shift{To: 256}) }, api.ErrLedgerRow},
	} {
		x := begun(t)
		texts := []string{mint(t, x, api.EngineSealed, example()), mint(t, x, api.EngineHeld, example())}
		end.do(x)
		nothing(t, what, x, texts, end.want)
	}
}
