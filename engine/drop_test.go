package engine_test

import (
	"testing"

	"postern/api"
)

// TestP15_5Sealed: Drop of a token that is not expired lays its entry into the list, the pruned one.
func TestP15_5Sealed(t *testing.T) {
	e := of(t, api.EngineSealed)
	d := id(5)
	for what, row := range map[string]struct {
		l, want []api.Revoked
	}{
		"none":               {nil, []api.Revoked{entry(one, d, 20)}},
		"its own":            {[]api.Revoked{entry(one, d, 20)}, []api.Revoked{entry(one, d, 20)}},
		"its own, less":      {[]api.Revoked{entry(one, d, 15)}, []api.Revoked{entry(one, d, 20)}},
		"its own, more":      {[]api.Revoked{entry(one, d, 30)}, []api.Revoked{entry(one, d, 30)}},
		"its grant's":        {[]api.Revoked{whole(one, 11)}, []api.Revoked{whole(one, 11)}},
		"its grant's is old": {[]api.Revoked{whole(one, 10)}, []api.Revoked{entry(one, d, 20)}},
		"others":             {[]api.Revoked{entry(0, d, 20), entry(one, id(2), 11), entry(one, id(9), 99), whole(2, 30)}, []api.Revoked{entry(0, d, 20), entry(one, id(2), 11), entry(one, d, 20), entry(one, id(9), 99), whole(2, 30)}},
		"others are expired": {[]api.Revoked{entry(0, d, 10), entry(one, id(2), first), entry(one, id(9), 11), whole(2, 9)}, []api.Revoked{entry(one, d, 20), entry(one, id(9), 11)}},
	} {
		x := begun(t)
		x.SetRevoked(row.l)
		e.Drop(x, api.Claims{Grant: one, ID: d, Exp: 20})
		wantList(t, what, x, row.want...)
	}
	for what, l := range noLists() {
		x := begun(t)
		x.SetRevoked(l)
		e.Drop(x, said(one, d, 20))
		wantList(t, what, x, entry(one, d, 20))
	}
}

// TestP15_5Times: of an expired token nothing is done, not even the list is pruned.
func TestP15_5Times(t *testing.T) {
	e := of(t, api.EngineSealed)
	for _, c := range []struct {
		now, exp int64
		done     bool
	}{
		{10, 11, true}, {10, 10, false}, {10, 9, false}, {10, last, true}, {10, first, false}, {last, last, false}, {last - 1, last, true}, {first, first, false}, {first, first + 1, true}, {-5, -4, true}, {0, 1, true}, {0, 0, false},
	} {
		x := begun(t)
		x.SetClock(c.now)
		old := entry(0, id(1), c.now)
		x.SetRevoked([]api.Revoked{old})
		e.Drop(x, said(one, id(5), c.exp))
		if c.done {
			wantList(t, "not expired", x, entry(one, id(5), c.exp))
		} else {
			wantList(t, "expired", x, old)
		}
	}
}

// TestP15_5Fields: just Grant, ID and Exp are looked at; nothing but the list changes, and no grant need be there.
func TestP15_5Fields(t *testing.T) {
	e := of(t, api.EngineSealed)
	for _, grant := range []uint64{0, one, 2, 1<<63 - 1, 1 << 63, 1<<64 - 1} {
		x := begun(t)
		mint(t, x, api.EngineHeld, said(one, id(5), 20))
		doing(t, "no claims", x, func() { e.Drop(x, api.Claims{Grant: grant, ID: id(5), Exp: 20}) }, listKey)
		wantList(t, "no claims", x, entry(grant, id(5), 20))
	}
	for what, row := range noClaims() {
		x := begun(t)
		doing(t, what, x, func() { e.Drop(x, row.c) }, map[bool][]string{true: {listKey}}[row.c.Exp > ten]...)
	}
}

// TestP15_5Held: what stands under the ID goes, whatever else the claims say; nothing else changes.
func TestP15_5Held(t *testing.T) {
	e := of(t, api.EngineHeld)
	for what, c := range map[string]api.Claims{
		"its claims":    said(one, id(5), 20),
		"the ID alone":  {ID: id(5)},
		"other claims":  said(9, id(5), 99),
		"expired ones":  said(one, id(5), 1),
		"no claims":     {ID: id(5), Grant: 1 << 63, Exp: first},
		"another clock": {ID: id(5), Exp: last},
	} {
		x := begun(t)
		x.SetRevoked([]api.Revoked{entry(one, id(5), 5)})
		for n := byte(4); n < 7; n++ {
			mint(t, x, api.EngineHeld, said(one, id(n), 20))
		}
		doing(t, what, x, func() { e.Drop(x, c) }, heldKey(id(5)))
		wantHelds(t, what, x, id(4), id(6))
		doing(t, what+", again", x, func() { e.Drop(x, c) })
		doing(t, what+", no row", x, func() { e.Drop(x, api.Claims{}) })
	}
	x := begun(t)
	x.Put([]byte(heldKey(id(5))), []byte("no row"))
	doing(t, "what is no row", x, func() { e.Drop(x, said(one, id(5), 20)) }, heldKey(id(5)))
	x.PutHeld(api.Held{Claims: said(one, id(5), 3)})
	doing(t, "an expired row", x, func() { e.Drop(x, said(one, id(5), 20)) }, heldKey(id(5)))
}

// TestP15_5One: Drop is of one token: others of its grant are taken still.
func TestP15_5One(t *testing.T) {
	for _, kind := range kinds() {
		x := begun(t)
		var texts []string
		for n := range byte(5) {
			texts = append(texts, mint(t, x, kind, said(one, id(n), 20)))
		}
		for n := range byte(5) {
			of(t, kind).Drop(x, said(one, id(n), 20))
			for m, text := range texts {
				want(t, "others", x, text, said(one, id(byte(m)), 20), byte(m) > n)
			}
		}
	}
}

// TestP15_6Sealed: Kill of a grant whose Sealed is not expired lays the whole grant's entry into the list, the pruned one.
func TestP15_6Sealed(t *testing.T) {
	e := of(t, api.EngineSealed)
	for what, row := range map[string]struct {
		l, want []api.Revoked
	}{
		"none":               {nil, []api.Revoked{whole(one, 20)}},
		"its tokens'":        {[]api.Revoked{entry(one, id(1), 20), entry(one, id(2), 99)}, []api.Revoked{whole(one, 20)}},
		"its own, less":      {[]api.Revoked{whole(one, 15)}, []api.Revoked{whole(one, 20)}},
		"its own, more":      {[]api.Revoked{whole(one, 30)}, []api.Revoked{whole(one, 30)}},
		"others":             {[]api.Revoked{entry(0, id(1), 11), entry(one, id(2), 30), whole(2, 30)}, []api.Revoked{entry(0, id(1), 11), whole(one, 20), whole(2, 30)}},
		"others are expired": {[]api.Revoked{entry(0, id(1), 10), entry(one, id(2), 5), whole(2, first), entry(3, id(1), 11)}, []api.Revoked{whole(one, 20), entry(3, id(1), 11)}},
	} {
		x := begun(t)
		x.SetRevoked(row.l)
		e.Kill(x, api.Grant{N: one, Sealed: 20})
		wantList(t, what, x, row.want...)
	}
	for what, l := range noLists() {
		x := begun(t)
		x.SetRevoked(l)
		e.Kill(x, granted(one, 20))
		wantList(t, what, x, whole(one, 20))
	}
	for _, c := range []struct {
		now, sealed int64
		done        bool
	}{
		{10, 11, true}, {10, 10, false}, {10, 9, false}, {10, 0, false}, {10, last, true}, {10, first, false}, {last, last, false}, {first, first, false}, {first, first + 1, true}, {0, 1, true}, {0, 0, false},
	} {
		x := begun(t)
		x.SetClock(c.now)
		old := entry(0, id(1), c.now)
		x.SetRevoked([]api.Revoked{old})
		e.Kill(x, granted(one, c.sealed))
		if c.done {
			wantList(t, "sealed", x, whole(one, c.sealed))
		} else {
			wantList(t, "nothing sealed", x, old)
		}
	}
}

// TestP15_6AsHandedIn: the grant is looked at as it is handed in, whatever stands in t; nothing but the list changes.
func TestP15_6AsHandedIn(t *testing.T) {
	e := of(t, api.EngineSealed)
	x := begun(t)
	text := mint(t, x, api.EngineSealed, example())
	mint(t, x, api.EngineHeld, said(one, id(1), 20))
	doing(t, "a row with Sealed 10", x, func() { e.Kill(x, api.Grant{N: one, Sealed: 10}) })
	wantTaken(t, "a row with Sealed 10", x, text, example())
	g := granted(one, 20)
	g.N = 2
	doing(t, "another number", x, func() { e.Kill(x, g) }, listKey)
	wantList(t, "another number", x, whole(2, 20))
	wantTaken(t, "another number", x, text, example())
	for _, n := range []uint64{0, one, 1 << 63, 1<<64 - 1} {
		x.SetRevoked(nil)
		doing(t, "the number alone", x, func() { e.Kill(x, api.Grant{N: n, Sealed: 12}) }, listKey)
		wantList(t, "the number alone", x, whole(n, 12))
	}
}

// TestP15_6Held: all rows go whose claims have the grant's number; nothing else changes.
func TestP15_6Held(t *testing.T) {
	e := of(t, api.EngineHeld)
	for what, g := range map[string]api.Grant{"its row": granted(one, 0), "its number alone": {N: one}, "expired": {N: one, Sealed: 5}, "with a Sealed": granted(one, 20)} {
		x := begun(t)
		x.SetRevoked([]api.Revoked{entry(3, id(5), 5)})
		doing(t, what+", no rows", x, func() { e.Kill(x, g) })
		var texts []string
		for n := range byte(6) {
			texts = append(texts, mint(t, x, api.EngineHeld, said(1+uint64(n%2), id(n), 20)))
		}
		x.PutHeld(api.Held{Claims: api.Claims{Grant: one, ID: id(77), Exp: first}, Kid: 99})
		doing(t, what, x, func() { e.Kill(x, g) }, heldKey(id(0)), heldKey(id(2)), heldKey(id(4)), heldKey(id(77)))
		wantHelds(t, what, x, id(1), id(3), id(5))
		for n, text := range texts {
			want(t, what, x, text, said(2, id(byte(n)), 20), n%2 == 1)
		}
		doing(t, what+", again", x, func() { e.Kill(x, g) })
		doing(t, what+", another one", x, func() { e.Kill(x, api.Grant{N: 3, Sealed: 20}) })
	}
}

// TestP15_6All: behind a Kill of its row none of a grant's tokens is taken any more, till they are expired; those of others are.
func TestP15_6All(t *testing.T) {
	for _, kind := range kinds() {
		x := begun(t)
		x.PutGrant(granted(2, 0))
		var texts []string
		for n := range byte(6) {
			texts = append(texts, mint(t, x, kind, said(1+uint64(n%2), id(n), int64(40-n))))
		}
		of(t, kind).Drop(x, said(one, id(2), 38))
		g, _ := x.Grant(one)
		of(t, kind).Kill(x, g)
		for _, now := range []int64{10, 30, 33, 35, 39, 40} {
			x.SetClock(now)
			for n, text := range texts {
				want(t, "killed", x, text, said(2, id(byte(n)), int64(40-n)), n%2 == 1 && now < int64(40-n))
			}
		}
	}
}

// TestP15_7Forget: all held rows of the kid go; the sealed engine does nothing.
func TestP15_7Forget(t *testing.T) {
	x := begun(t)
	x.SetRevoked([]api.Revoked{entry(3, id(5), 5), entry(4, id(5), 90)})
	for n := range byte(3) {
		mint(t, x, api.EngineHeld, said(one, id(n), 20))
	}
	x.SetRing(rotated(t, x.Ring(), 15))
	for n := byte(3); n < 6; n++ {
		mint(t, x, api.EngineHeld, said(one, id(n), 20))
		mint(t, x, api.EngineSealed, said(one, id(n), 20))
	}
	x.PutHeld(api.Held{Claims: api.Claims{Grant: 9, ID: id(77), Exp: first}, Kid: 1})
	x.PutHeld(api.Held{Claims: api.Claims{Grant: 9, ID: id(78), Exp: first}, Kid: 0})
	for _, kid := range []uint64{0, 1, 2, 3, 1 << 63} {
		doing(t, "by the sealed engine", x, func() { of(t, api.EngineSealed).Forget(x, kid) })
	}
	e := of(t, api.EngineHeld)
	for _, kid := range []uint64{3, 4, 1 << 63, 1<<64 - 1, 1<<32 + 1, 257} {
		doing(t, "no such kid", x, func() { e.Forget(x, kid) })
	}
	doing(t, "kid 0", x, func() { e.Forget(x, 0) }, heldKey(id(78)))
	doing(t, "kid 1", x, func() { e.Forget(x, 1) }, heldKey(id(0)), heldKey(id(1)), heldKey(id(2)), heldKey(id(77)))
	wantHelds(t, "kid 1", x, id(3), id(4), id(5))
	doing(t, "kid 1, again", x, func() { e.Forget(x, 1) })
	doing(t, "kid 2", x, func() { e.Forget(x, 2) }, heldKey(id(3)), heldKey(id(4)), heldKey(id(5)))
	wantHelds(t, "kid 2", x)
}
