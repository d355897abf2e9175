package engine_test

import (
	"testing"

	"postern/api"
	"postern/engine"
	"postern/ledger"
	"postern/seal"
)

func wantRefused(t *testing.T, what string, x *ledger.Tx, c api.Claims, want api.Errno) {
	t.Helper()
	for _, kind := range kinds() {
		doing(t, what, x, func() {
			text, e := of(t, kind).Mint(x, c)
			if text != "" || e != want {
				t.Errorf("%s: Mint by %d: %q, %d, not %d", what, kind, text, e, want)
			}
		})
	}
}

// TestP15_3Claims: claims that may not be are refused, ahead of a ring that has no key.
func TestP15_3Claims(t *testing.T) {
	for what, row := range noClaims() {
		x := begun(t)
		wantRefused(t, what, x, row.c, row.want)
		x.SetRing(api.Ring{})
		wantRefused(t, what+", no ring", x, row.c, row.want)
	}
}

// TestP15_3NoKey: so are all claims, if the ring has no current key.
func TestP15_3NoKey(t *testing.T) {
	for what, r := range noRings() {
		x := begun(t)
		x.SetRing(r)
		wantRefused(t, what, x, example(), api.ErrSealKid)
	}
	_, s := started(t)
	wantRefused(t, "an empty store", ledger.Begin(s), example(), api.ErrSealKid)
}

// someRings tells rings, and the current keys of them.
func someRings() map[string]struct {
	r       api.Ring
	current api.Key
} {
	type row = struct {
		r       api.Ring
		current api.Key
	}
	full := keys(1 << 40)
	for kid := uint64(1); kid < 8; kid++ {
		full.Keys = append(full.Keys, key(kid, int64(kid)*3))
	}
	full.Keys = append(full.Keys, key(1<<32, 0))
	return map[string]row{
		"one key":              {keys(2, key(1, 0)), key(1, 0)},
		"a later one":          {keys(9, key(7, 0)), key(7, 0)},
		"the greatest kid":     {keys(last, key(last-1, 0)), key(last-1, 0)},
		"one put aside":        {keys(3, key(1, 11), key(2, 0)), key(2, 0)},
		"one whose time came":  {keys(3, key(1, 10), key(2, 0)), key(2, 0)},
		"a full ring":          {full, key(1<<32, 0)},
		"all of them put away": {keys(9, key(1, 1), key(2, 1), key(5, 1), key(6, 0)), key(6, 0)},
	}
}

// someClaims tells claims that may be, up to the edges.
func someClaims() map[string]api.Claims {
	alone := example()
	alone.Scopes = nil
	late := said(last, id(3), last)
	late.Iat = last - 1
	return map[string]api.Claims{
		"the example":      example(),
		"no scopes":        alone,
		"the greatest":     late,
		"expired":          said(one, id(4), 10),
		"long expired":     said(one, id(5), 1),
		"no such grant":    said(2, id(6), 30),
		"an ID of all 255": said(one, api.ID{255, 255, 255, 255, 255, 255, 255, 255, 255, 255, 255, 255, 255, 255, 255, 255}, 30),
	}
}

// TestP15_3Sealed: the token is what seal.Mint tells of the current key; nothing but the grant's Sealed changes.
func TestP15_3Sealed(t *testing.T) {
	for in, ringed := range someRings() {
		for what, c := range someClaims() {
			what += ", " + in
			x := begun(t)
			x.SetRing(ringed.r)
			var keys []string
			if c.Grant == one {
				keys = append(keys, grantKey(one))
			}
			doing(t, what, x, func() {
				text, e := of(t, api.EngineSealed).Mint(x, c)
				wantErrno(t, what, e, api.OK)
				wantSame(t, what, text, sealedBy(t, ringed.current, c))
			}, keys...)
		}
	}
}

// TestP15_3Raise: the grant's Sealed is the greatest exp of its sealed tokens; its other fields, and other grants, stay.
func TestP15_3Raise(t *testing.T) {
	for _, c := range []struct {
		sealed, exp, want int64
	}{
		{0, 20, 20}, {19, 20, 20}, {20, 20, 20}, {21, 20, 21}, {last, 20, last}, {-1, 20, 20}, {first, 1, 1}, {0, 1, 1}, {1, 2, 2}, {2, 1, 2}, {last - 1, last, last}, {last, last, last},
	} {
		for _, live := range []bool{true, false} {
			x := begun(t)
			g := granted(one, c.sealed)
			g.Live = live
			x.PutGrant(g)
			x.PutGrant(granted(2, c.sealed))
			mint(t, x, api.EngineSealed, said(one, id(1), c.exp))
			g.Sealed = c.want
			got, _ := x.Grant(one)
			wantSame(t, "the grant", got, g)
			got, _ = x.Grant(2)
			wantSame(t, "another grant", got, granted(2, c.sealed))
		}
	}
	x := begun(t)
	for i, exp := range []int64{15, 14, 16, 16, 12} {
		mint(t, x, api.EngineSealed, said(one, id(byte(i)), exp))
	}
	got, _ := x.Grant(one)
	wantSame(t, "behind five", got, granted(one, 16))
}

// TestP15_3Held: the claims and the current key's kid stand under the ID, the token is its text; nothing else changes.
func TestP15_3Held(t *testing.T) {
	for in, ringed := range someRings() {
		for what, c := range someClaims() {
			what += ", " + in
			x := begun(t)
			x.SetRing(ringed.r)
			doing(t, what, x, func() {
				text, e := of(t, api.EngineHeld).Mint(x, c)
				wantErrno(t, what, e, api.OK)
				if !isHeld(text) {
					t.Errorf("%s: %q is no held token's text", what, text)
				}
			}, heldKey(c.ID))
			got, _ := x.Held(c.ID)
			wantSame(t, what, got, api.Held{Claims: c, Kid: ringed.current.Kid})
		}
	}
	x := begun(t)
	for text, d := range map[string]api.ID{
		"at_AAAAAAAAAAAAAAAAAAAAAA": {},
		"at_AAECAwQFBgcICQoLDA0ODw": {0, 1, 2, 3, 4, 5, 6, 7, 8, 9, 10, 11, 12, 13, 14, 15},
		"at_BwcHBwcHBwcHBwcHBwcHBw": {7, 7, 7, 7, 7, 7, 7, 7, 7, 7, 7, 7, 7, 7, 7, 7},
		"at______________________w": {255, 255, 255, 255, 255, 255, 255, 255, 255, 255, 255, 255, 255, 255, 255, 255},
	} {
		wantSame(t, "the text", mint(t, x, api.EngineHeld, said(one, d, 20)), text)
	}
}

// TestP15_3Place: a held token is laid in the place of what stood under its ID, be it no row.
func TestP15_3Place(t *testing.T) {
	x := begun(t)
	old := said(2, id(1), 99)
	p := mint(t, x, api.EngineHeld, old)
	x.SetRing(rotated(t, x.Ring(), 50))
	c := said(one, id(1), 20)
	wantSame(t, "the text", mint(t, x, api.EngineHeld, c), p)
	wantSame(t, "the rows", x.Helds(), []api.Held{{Claims: c, Kid: 2}})
	x.Put([]byte(heldKey(id(1))), []byte("no row"))
	mint(t, x, api.EngineHeld, old)
	wantSame(t, "over what is no row", x.Helds(), []api.Held{{Claims: old, Kid: 2}})
}

// TestP15_3Now: neither engine looks at the clock: claims that are expired are minted, and not taken.
func TestP15_3Now(t *testing.T) {
	for _, kind := range kinds() {
		for _, now := range []int64{first, -1, 0, 19, 20, 21, last} {
			x := begun(t)
			x.SetClock(now)
			text := mint(t, x, kind, example())
			if _, there := engine.Find(x, text); there != (now < 20) {
				t.Errorf("by %d at %d: taken is %v", kind, now, there)
			}
		}
	}
}

// TestP15_3Twice: the same claims by the same key are one sealed token, by another key another one.
func TestP15_3Twice(t *testing.T) {
	x := begun(t)
	p := mint(t, x, api.EngineSealed, example())
	wantSame(t, "again", mint(t, x, api.EngineSealed, example()), p)
	x.SetRing(rotated(t, x.Ring(), 50))
	q := mint(t, x, api.EngineSealed, example())
	if kid, _, _, e := seal.Parts(q); p == q || kid != 2 || e != api.OK {
		t.Errorf("by key %d: %q", kid, q)
	}
}
