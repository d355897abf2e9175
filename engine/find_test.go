package engine_test

import (
	"testing"

	"postern/api"
	"postern/ledger"
)

// want asks that a text is taken for these claims, or is not.
func want(t *testing.T, what string, x *ledger.Tx, text string, c api.Claims, taken bool) {
	t.Helper()
	if taken {
		wantTaken(t, what, x, text, c)
	} else {
		wantLost(t, what, x, text)
	}
}

// TestP15_4Exp: a token is taken as long as its Exp is above the clock.
func TestP15_4Exp(t *testing.T) {
	for _, kind := range kinds() {
		for _, exp := range []int64{1, 2, 20, last} {
			x := begun(t)
			text := mint(t, x, kind, said(one, id(1), exp))
			for _, now := range []int64{first, -1, 0, exp - 1, exp, last - 1, last} {
				x.SetClock(now)
				want(t, "by the clock", x, text, said(one, id(1), exp), exp > now)
			}
		}
	}
}

// TestP15_4Key: a token is taken as long as the key of its minting is in the ring, the pruned one.
func TestP15_4Key(t *testing.T) {
	for _, kind := range kinds() {
		x := begun(t)
		x.SetClock(0)
		c := said(one, id(1), 50)
		text := mint(t, x, kind, c)
		for _, until := range []int64{1, 2, 15, 49, 50, 51, last} {
			x.SetRing(keys(3, key(1, until), key(2, 0)))
			for _, now := range []int64{0, until - 1, until, 49, 50} {
				x.SetClock(now)
				want(t, "put aside", x, text, c, now < until && now < 50)
			}
		}
		x.SetClock(0)
		x.SetRing(keys(9, key(2, 20), key(3, 0)))
		wantLost(t, "gone", x, text)
		x.SetRing(keys(2, key(1, 0)))
		wantTaken(t, "back", x, text, c)
		for what, r := range noRings() {
			x.SetRing(r)
			wantLost(t, what, x, text)
		}
	}
}

// TestP15_4Secret: a sealed token is taken by the secret of its kid; a held one by the kid.
func TestP15_4Secret(t *testing.T) {
	x := begun(t)
	a, b := said(one, id(1), 20), said(one, id(2), 20)
	p, q := mint(t, x, api.EngineSealed, a), mint(t, x, api.EngineHeld, b)
	k := key(1, 0)
	k.Secret[16]++
	x.SetRing(keys(2, k))
	wantLost(t, "another secret", x, p)
	wantTaken(t, "another secret", x, q, b)
	wantTaken(t, "sealed elsewhere", x, sealedBy(t, k, a), a)
}

// TestP15_4Rows: of held tokens the row that stands under the ID is told as it stands, whatever it says.
func TestP15_4Rows(t *testing.T) {
	const text = "at_AAAAAAAAAAAAAAAAAAAAAA"
	x := begun(t)
	wantLost(t, "no row", x, text)
	odd := api.Claims{Iss: "", Sub: "\xff", Scopes: []string{"b", "", "a"}, Grant: 1 << 63, Iat: 99, Exp: 11}
	for _, row := range []struct {
		r     api.Held
		taken bool
	}{
		{api.Held{Claims: odd, Kid: 1}, true},
		{api.Held{Claims: odd, Kid: 2}, false},
		{api.Held{Claims: odd, Kid: 0}, false},
		{api.Held{Claims: odd, Kid: 1 << 63}, false},
		{api.Held{Claims: said(2, api.ID{}, 11), Kid: 1}, true},
		{api.Held{Claims: said(2, api.ID{}, 10), Kid: 1}, false},
		{api.Held{Claims: said(2, api.ID{}, 9), Kid: 1}, false},
		{api.Held{Claims: api.Claims{Exp: first}, Kid: 1}, false},
		{api.Held{}, false},
	} {
		x.PutHeld(row.r)
		want(t, lineOf(row.r), x, text, row.r.Claims, row.taken)
	}
	x.PutHeld(api.Held{Claims: said(one, id(1), 20), Kid: 1})
	wantTaken(t, "another ID", x, "at_AQAAAAAAAAAAAAAAAAAA_g", said(one, id(1), 20))
	wantLost(t, "no such ID", x, "at_AQAAAAAAAAAAAAAAAAAA_w")
}

// TestP15_4List: a sealed token is not taken that the list has, by its own entry or its grant's, as long as the entry is not expired; held ones don't look at it.
func TestP15_4List(t *testing.T) {
	d := id(1)
	for what, row := range map[string]struct {
		l     []api.Revoked
		taken bool
	}{
		"none":                  {nil, true},
		"its own":               {[]api.Revoked{entry(one, d, 20)}, false},
		"its own, for long":     {[]api.Revoked{entry(one, d, last)}, false},
		"its own, just not":     {[]api.Revoked{entry(one, d, 11)}, false},
		"its own, expired":      {[]api.Revoked{entry(one, d, 10)}, true},
		"its own, long expired": {[]api.Revoked{entry(one, d, first)}, true},
		"its grant":             {[]api.Revoked{whole(one, 20)}, false},
		"its grant, just not":   {[]api.Revoked{whole(one, 11)}, false},
		"its grant, expired":    {[]api.Revoked{whole(one, 10)}, true},
		"another ID":            {[]api.Revoked{entry(one, api.ID{}, 20), entry(one, id(2), 20)}, true},
		"another grant":         {[]api.Revoked{entry(0, d, 20), entry(2, d, 20)}, true},
		"other grants, whole":   {[]api.Revoked{whole(0, 20), whole(2, 20)}, true},
		"among others":          {[]api.Revoked{whole(0, 20), entry(one, api.ID{}, 5), entry(one, d, 20), entry(one, id(2), 5), whole(2, 20)}, false},
		"the grant's ahead":     {[]api.Revoked{whole(0, 5), whole(one, 20), entry(2, d, 5)}, false},
	} {
		x := begun(t)
		c := said(one, d, 20)
		p, q := mint(t, x, api.EngineSealed, c), mint(t, x, api.EngineHeld, c)
		x.SetRevoked(row.l)
		want(t, what, x, p, c, row.taken)
		wantTaken(t, what+", held", x, q, c)
	}
}

// TestP15_4NoList: of what is no list Prune tells none: so it revokes nothing.
func TestP15_4NoList(t *testing.T) {
	for what, l := range noLists() {
		x := begun(t)
		text := mint(t, x, api.EngineSealed, example())
		x.SetRevoked(l)
		wantTaken(t, what, x, text, example())
	}
}

// TestP15_4Own: what is told of t is what it tells at the call, its own changes with it; and what was committed, later on.
func TestP15_4Own(t *testing.T) {
	for _, kind := range kinds() {
		_, s := started(t)
		x := ledger.Begin(s)
		x.SetClock(ten)
		x.PutGrant(granted(one, 0))
		x.SetRing(keys(2, key(1, 0)))
		c := said(one, id(1), 20)
		text := mint(t, x, kind, c)
		wantTaken(t, "its own", x, text, c)
		if kind == api.EngineHeld {
			wantLost(t, "another one's", ledger.Begin(s), text)
		}
		if e := x.Commit(); e != api.OK {
			t.Fatalf("Commit: %d", e)
		}
		wantTaken(t, "behind the Commit", ledger.Begin(s), text, c)
		y, z := ledger.Begin(s), ledger.Begin(s)
		of(t, kind).Drop(y, c)
		wantLost(t, "dropped", y, text)
		wantTaken(t, "dropped elsewhere", z, text, c)
		if e := y.Commit(); e != api.OK {
			t.Fatalf("Commit: %d", e)
		}
		wantLost(t, "behind the second Commit", z, text)
		wantLost(t, "behind the second Commit", ledger.Begin(s), text)
	}
}

// TestP15_4Grant: the grant's row is not asked for.
func TestP15_4Grant(t *testing.T) {
	for _, kind := range kinds() {
		x := begun(t)
		p, q := mint(t, x, kind, said(one, id(1), 20)), mint(t, x, kind, said(2, id(2), 20))
		wantTaken(t, "a grant that never was", x, q, said(2, id(2), 20))
		g := granted(one, 0)
		g.Live, g.Exp, g.Last = false, 0, 0
		x.PutGrant(g)
		wantTaken(t, "a dead grant's", x, p, said(one, id(1), 20))
		x.DropGrant(one)
		wantTaken(t, "a grant that has gone", x, p, said(one, id(1), 20))
	}
}
