package engine_test

import (
	"math/rand"
	"testing"

	"postern/api"
	"postern/engine"
	"postern/ledger"
	"postern/store"
)

// spoilt tells a store with a grant, a token of each engine, and one pair that is no row.
func spoilt(t *testing.T, key string) (*store.Store, map[int]string) {
	t.Helper()
	_, s := started(t)
	x := ledger.Begin(s)
	x.SetClock(ten)
	x.PutGrant(granted(one, 0))
	x.SetRing(keys(2, key1()))
	texts := map[int]string{api.EngineSealed: mint(t, x, api.EngineSealed, example()), api.EngineHeld: mint(t, x, api.EngineHeld, example())}
	wantErrno(t, "Commit", x.Commit(), api.OK)
	if key != "" {
		wantErrno(t, "Commit", s.Commit([]api.Change{{Key: []byte(key), Value: []byte("no row")}}), api.OK)
	}
	return s, texts
}

func key1() api.Key { return key(1, 0) }

// The keys of the clock's and the ring's pairs.
const (
	clockKey = "t"
	ringKey  = "k"
)

// TestP15_10Find: a text is not taken over a pair that has to be read and is no row: what a list may have held that can't be read is not taken again.
func TestP15_10Find(t *testing.T) {
	for _, kind := range kinds() {
		for key, read := range map[string][]int{clockKey: kinds(), ringKey: kinds(), listKey: {api.EngineSealed}, heldKey(api.ID{}): {api.EngineHeld}, heldKey(id(1)): nil, grantKey(one): nil, "S": nil, "x": nil, "": nil} {
			s, texts := spoilt(t, key)
			is := false
			for _, k := range read {
				is = is || k == kind
			}
			x := ledger.Begin(s)
			c, there := engine.Find(x, texts[kind])
			if there == is || is && lineOf(c) != lineOf(api.Claims{}) {
				t.Errorf("%q: %d tells %v, %v", key, kind, c, there)
			}
			wantErr(t, key, x, is)
			x = ledger.Begin(s)
			for _, text := range []string{"", "at_", "a.b", texts[other(kind)]} {
				if _, there := of(t, kind).Find(x, text); there {
					t.Errorf("%q is taken by %d", text, kind)
				}
			}
			wantErr(t, key, x, false)
		}
	}
}

func wantErr(t *testing.T, key string, x *ledger.Tx, is bool) {
	t.Helper()
	want := api.OK
	if is {
		want = api.ErrLedgerBad
	}
	wantErrno(t, key+": Err", x.Err(), want)
}

// TestP15_10Changes: over such a pair nothing is changed, if it has to be read.
func TestP15_10Changes(t *testing.T) {
	for _, row := range []struct {
		what string
		do   func(x *ledger.Tx)
		read []string
	}{
		{"Drop of a sealed one", func(x *ledger.Tx) { of(t, api.EngineSealed).Drop(x, example()) }, []string{clockKey, listKey}},
		{"Kill of sealed ones", func(x *ledger.Tx) { of(t, api.EngineSealed).Kill(x, granted(one, 20)) }, []string{clockKey, listKey}},
		{"Forget of sealed ones", func(x *ledger.Tx) { of(t, api.EngineSealed).Forget(x, 1) }, nil},
		{"Drop of a held one", func(x *ledger.Tx) { of(t, api.EngineHeld).Drop(x, example()) }, nil},
		{"Kill of held ones", func(x *ledger.Tx) { of(t, api.EngineHeld).Kill(x, granted(one, 20)) }, []string{heldKey(api.ID{}), heldKey(id(1)), "H"}},
		{"Forget of held ones", func(x *ledger.Tx) { of(t, api.EngineHeld).Forget(x, 1) }, []string{heldKey(api.ID{}), heldKey(id(1)), "H"}},
		{"Mint of a sealed one", func(x *ledger.Tx) { of(t, api.EngineSealed).Mint(x, said(one, id(9), 30)) }, []string{clockKey, ringKey, grantKey(one)}},
		{"Mint of a held one", func(x *ledger.Tx) { of(t, api.EngineHeld).Mint(x, said(one, id(9), 30)) }, []string{clockKey, ringKey}},
	} {
		for _, key := range []string{clockKey, ringKey, listKey, heldKey(api.ID{}), heldKey(id(1)), "H", grantKey(one)} {
			s, _ := spoilt(t, key)
			is := false
			for _, k := range row.read {
				is = is || k == key
			}
			x := ledger.Begin(s)
			row.do(x)
			wantErr(t, row.what+", "+key, x, is)
			before := pairsOf(ledger.Begin(s))
			if e := x.Commit(); is && e != api.ErrLedgerBad || !is && e != api.OK {
				t.Errorf("%s, %q: Commit: %d", row.what, key, e)
			}
			if got := differing(before, pairsOf(ledger.Begin(s))); is && len(got) > 0 {
				t.Errorf("%s, %q: %q have changed", row.what, key, got)
			}
		}
	}
}

// TestP15_10Mint: no token is told, if the clock or the ring can't be read; claims that may not be are refused ahead of that.
func TestP15_10Mint(t *testing.T) {
	for _, kind := range kinds() {
		for _, key := range []string{clockKey, ringKey} {
			s, _ := spoilt(t, key)
			x := ledger.Begin(s)
			if text, e := of(t, kind).Mint(x, api.Claims{}); text != "" || e != api.ErrClaimName || x.Err() != api.OK {
				t.Errorf("%q: %q, %d, Err %d", key, text, e, x.Err())
			}
			if text, e := of(t, kind).Mint(x, said(one, id(9), 30)); text != "" || e != api.ErrSealKid || x.Err() != api.ErrLedgerBad {
				t.Errorf("%q: %q, %d, Err %d", key, text, e, x.Err())
			}
		}
	}
}

// TestP15_10Full: a list that has no room for one more entry is the transaction's error.
func TestP15_10Full(t *testing.T) {
	const most = (api.MaxValue - 2) / 33
	e := of(t, api.EngineSealed)
	for n := most - 1; n <= most; n++ {
		x := begun(t)
		text := mint(t, x, api.EngineSealed, example())
		var l []api.Revoked
		for i := range n {
			l = append(l, entry(uint64(1000+i), id(1), 90))
		}
		x.SetRevoked(l)
		wantTaken(t, "a long list", x, text, example())
		e.Drop(x, example())
		if got := x.Err(); n < most && got != api.OK || n == most && got != api.ErrLedgerRow {
			t.Errorf("Drop with %d entries: Err is %d", n, got)
		}
		lost(t, x, text)
	}
}

// TestP15_10Any: every call ends, over whatever pairs, with whatever is handed in; what is taken is taken for a reason.
func TestP15_10Any(t *testing.T) {
	r := rand.New(rand.NewSource(1510))
	some := func(most int) []byte {
		b := make([]byte, r.Intn(most))
		r.Read(b)
		return b
	}
	for range 400 {
		s, texts := spoilt(t, "")
		var l []api.Change
		for range r.Intn(5) {
			key := []string{clockKey, ringKey, listKey, heldKey(api.ID{}), heldKey(id(byte(r.Intn(4)))), grantKey(one), grantKey(uint64(r.Intn(4))), "H", "G"}[r.Intn(9)]
			l = append(l, api.Change{Key: []byte(key), Value: some(60)})
		}
		wantErrno(t, "Commit", s.Commit(l), api.OK)
		for _, kind := range kinds() {
			e, x := of(t, kind), ledger.Begin(s)
			c := api.Claims{Iss: string(some(5)), Sub: string(some(70)), Scopes: []string{string(some(3)), string(some(40))}, Grant: r.Uint64(), Iat: int64(r.Uint64()), Exp: int64(r.Uint64())}
			g := api.Grant{N: uint64(r.Intn(3)), Sealed: int64(r.Uint64())}
			for _, text := range []string{string(some(30)), "at_" + string(some(30)), string(some(9)) + "." + string(some(9)) + ".", texts[kind], texts[other(kind)]} {
				if _, there := e.Find(x, text); there && (text != texts[kind] || x.Err() != api.OK) {
					t.Fatalf("%q is taken, Err is %d", text, x.Err())
				}
				engine.Find(x, text)
			}
			if text, bad := e.Mint(x, c); text != "" || bad == api.OK {
				t.Fatalf("%v: %q, %d", c, text, bad)
			}
			for range 2 {
				e.Drop(x, c)
				e.Kill(x, g)
				e.Forget(x, uint64(r.Intn(3)))
				x = ledger.Begin(s)
			}
		}
	}
}
