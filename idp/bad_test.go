package idp_test

import (
	"math"
	"testing"

	"postern/api"
	"postern/idp"
	"postern/ledger"
)

// bad asks that a call over these rows tells ErrIdpBad and nothing else, asks for no draws, and changes nothing; and that the provider goes on.
func (w *world) wantBad(what string, spoil func(x *ledger.Tx), do func(p *idp.Provider) (any, api.Errno)) {
	w.t.Helper()
	v := w.copied()
	v.spoil(spoil)
	v.refused(what, api.ErrIdpBad, func() (any, api.Errno) { return do(v.p) })
	v.refused(what+", once more", api.ErrIdpBad, func() (any, api.Errno) { return do(v.p) })
	wantErrno(w.t, what+": AddUser", v.p.AddUser("bob", "pw"), api.OK)
}

// noEngines tells kinds that are no engine's, as far as a row can have them.
func noEngines() []int { return []int{api.EngineNone, 3, 255} }

// TestP17_2BadGrant: a grant of no engine.
func TestP17_2BadGrant(t *testing.T) {
	for _, kind := range kinds() {
		for _, engine := range noEngines() {
			w := begun(t, kind)
			s, code, old := w.issued()
			i := w.renew(old.Refresh)
			spoil := func(x *ledger.Tx) {
				g, _ := x.Grant(1)
				g.Engine = engine
				x.PutGrant(g)
			}
			for what, do := range map[string]func(p *idp.Provider) (any, api.Errno){
				"Renew":               func(p *idp.Provider) (any, api.Errno) { i, e := p.Renew("shop", "s", i.Refresh, nil); return i, e },
				"Renew of an old one": func(p *idp.Provider) (any, api.Errno) { i, e := p.Renew("shop", "s", old.Refresh, nil); return i, e },
				"Renew with other scopes": func(p *idp.Provider) (any, api.Errno) {
					i, e := p.Renew("shop", "s", i.Refresh, []string{"z"})
					return i, e
				},
				"Exchange once more":        func(p *idp.Provider) (any, api.Errno) { i, e := p.Exchange("shop", "s", code, "x", ""); return i, e },
				"Revoke of a refresh token": func(p *idp.Provider) (any, api.Errno) { return only(p.Revoke("shop", "s", i.Refresh)) },
				"Revoke of an access token": func(p *idp.Provider) (any, api.Errno) { return only(p.Revoke("shop", "s", i.Access)) },
				"Withdraw":                  func(p *idp.Provider) (any, api.Errno) { n, e := p.Withdraw(s, "shop"); return n, e },
				"RemoveUser":                func(p *idp.Provider) (any, api.Errno) { n, e := p.RemoveUser("ann"); return n, e },
				"RemoveClient":              func(p *idp.Provider) (any, api.Errno) { n, e := p.RemoveClient("shop"); return n, e },
				"SetPassword":               func(p *idp.Provider) (any, api.Errno) { n, e := p.SetPassword(s, "pw", "new"); return n, e },
			} {
				w.wantBad(what, spoil, do)
			}
			// What does not meet it goes on.
			v := w.copied()
			v.spoil(spoil)
			v.taken("Find", true, i.Access)
			wantErrno(t, "Logout", v.p.Logout(s), api.OK)
			_, _, e := v.p.Introspect("shop", "s", i.Access)
			wantErrno(t, "Introspect", e, api.OK)
		}
	}
}

// TestP17_2BadShift: a migration that none is.
func TestP17_2BadShift(t *testing.T) {
	for _, kind := range kinds() {
		other := sealed + held - kind
		w := begun(t, kind)
		code := w.code(w.session())
		for _, x := range []api.Shift{{}, {From: 3}, {From: 255}, {From: kind, To: other}, {From: kind, To: kind}, {From: kind, To: 3}, {On: true}, {On: true, From: kind},
			{On: true, From: kind, To: kind}, {On: true, From: kind, To: 3}, {On: true, To: kind}, {On: true, From: 3, To: kind}} {
			spoil := func(tx *ledger.Tx) { tx.SetShift(x) }
			for what, do := range map[string]func(p *idp.Provider) (any, api.Errno){
				"Begin":           func(p *idp.Provider) (any, api.Errno) { return only(p.Begin(other)) },
				"Begin of itself": func(p *idp.Provider) (any, api.Errno) { return only(p.Begin(kind)) },
				"Begin of none":   func(p *idp.Provider) (any, api.Errno) { return only(p.Begin(9)) },
				"Step":            func(p *idp.Provider) (any, api.Errno) { n, end, e := p.Step(1); return step{n, end}, e },
				"Step of none":    func(p *idp.Provider) (any, api.Errno) { n, end, e := p.Step(0); return step{n, end}, e },
				"Exchange":        func(p *idp.Provider) (any, api.Errno) { i, e := p.Exchange("shop", "s", code, "x", ""); return i, e },
			} {
				w.wantBad(what+lineOf(x), spoil, do)
			}
		}
	}
}

// TestP17_2BadRows: rows that can't stand by themselves, or of which no claims can be made.
func TestP17_2BadRows(t *testing.T) {
	for _, kind := range kinds() {
		w := begun(t, kind)
		s, spent, i := w.issued()
		code := w.code(s)
		exchange := func(p *idp.Provider) (any, api.Errno) { i, e := p.Exchange("shop", "s", code, "x", ""); return i, e }
		again := func(p *idp.Provider) (any, api.Errno) { i, e := p.Exchange("shop", "s", spent, "x", ""); return i, e }
		renew := func(p *idp.Provider) (any, api.Errno) { i, e := p.Renew("shop", "s", i.Refresh, nil); return i, e }
		revoke := func(p *idp.Provider) (any, api.Errno) { return only(p.Revoke("shop", "s", i.Refresh)) }
		logout := func(p *idp.Provider) (any, api.Errno) { return only(p.Logout(s)) }
		rotate := func(p *idp.Provider) (any, api.Errno) { k, e := p.Rotate(); return k, e }
		consent := func(p *idp.Provider) (any, api.Errno) { return only(p.Consent(s, "shop", []string{"a"})) }
		password := func(p *idp.Provider) (any, api.Errno) { n, e := p.SetPassword(s, "pw", "new"); return n, e }
		nobody := func(x *ledger.Tx) { x.DropUser("ann") }
		w.wantBad("a session of nobody: Logout", nobody, logout)
		w.wantBad("a session of nobody: Consent", nobody, consent)
		w.wantBad("a session of nobody: SetPassword", nobody, password)
		w.wantBad("a code of nobody", nobody, exchange)
		w.wantBad("a code of nobody, spent", nobody, again)
		w.wantBad("a refresh token of nobody", nobody, renew)
		w.wantBad("a refresh token of nobody: Revoke", nobody, revoke)
		for what, change := range map[string]func(g *api.Grant){
			"a dead grant's refresh token":       func(g *api.Grant) { g.Live = false },
			"a grant that is not held any more":  func(g *api.Grant) { g.Exp, g.Last = 0, 0 },
			"a dead grant that is not held, too": func(g *api.Grant) { g.Live, g.Exp, g.Last = false, 0, 0 },
		} {
			spoil := func(x *ledger.Tx) {
				g, _ := x.Grant(1)
				change(&g)
				x.PutGrant(g)
			}
			w.wantBad(what, spoil, renew)
			w.wantBad(what+": Revoke", spoil, revoke)
		}
		lost := func(x *ledger.Tx) { x.DropGrant(1) }
		w.wantBad("a refresh token without a grant", lost, renew)
		w.wantBad("a refresh token without a grant: Revoke", lost, revoke)
		for _, n := range []uint64{0, 1 << 63, math.MaxUint64} {
			w.wantBad("Next", func(x *ledger.Tx) { x.SetNext(n) }, exchange)
		}
		w.wantBad("a clock below 0", func(x *ledger.Tx) { x.SetClock(-1) }, exchange)
		w.wantBad("a clock below 0: Rotate", func(x *ledger.Tx) { x.SetClock(-10) }, rotate)
		w.wantBad("the last kid", func(x *ledger.Tx) {
			r := x.Ring()
			r.Next = math.MaxInt64
			x.SetRing(r)
		}, rotate)
		w.wantBad("the last kid: Distrust", func(x *ledger.Tx) {
			r := x.Ring()
			r.Next = math.MaxInt64
			x.SetRing(r)
		}, func(p *idp.Provider) (any, api.Errno) { return only(p.Distrust(1)) })
		for what, change := range map[string]func(c *api.Code){
			"scopes that are no set": func(c *api.Code) { c.Scopes = []string{"b", "a"} },
			"a scope that is none":   func(c *api.Code) { c.Scopes = []string{"é"} },
		} {
			w.wantBad(what, func(x *ledger.Tx) {
				for _, c := range x.Codes() {
					change(&c)
					x.PutCode(c)
				}
			}, exchange)
		}
		w.wantBad("an audience that is none", func(x *ledger.Tx) {
			c, _ := x.Client("shop")
			c.Aud = ""
			x.PutClient(c)
		}, renew)
		w.wantBad("a consent that is none", func(x *ledger.Tx) {
			x.PutConsent(api.Consent{User: "ann", Client: "shop", Scopes: []string{"b c"}})
		}, consent)
	}
}

// TestP17_2BadFirst: ErrIdpBad goes ahead of what else the call would tell, of too few draws, too.
func TestP17_2BadFirst(t *testing.T) {
	w := begun(t, sealed)
	_, _, i := w.issued()
	w.spoil(func(x *ledger.Tx) {
		g, _ := x.Grant(1)
		g.Engine, g.Client, g.Issues = 0, "more", api.MaxIssues
		x.PutGrant(g)
		x.SetClock(last - 200)
		r, _ := x.Refresh(draw(8))
		r.Exp, g.Exp = last, last
		x.PutRefresh(r)
		x.PutGrant(g)
	})
	w.h.other = func(int) ([]api.ID, bool) { return nil, false }
	w.refused("Renew", api.ErrIdpBad, func() (any, api.Errno) { i, e := w.p.Renew("shop", "s", i.Refresh, []string{"z"}); return i, e })
	w.refused("Renew by none", api.ErrIdpAuth, func() (any, api.Errno) { i, e := w.p.Renew("shop", "no", i.Refresh, nil); return i, e })
}

// TestP17_2Never: over a disk that providers alone have written no call tells it: see TestFollows as well.
func TestP17_2Never(t *testing.T) {
	for _, kind := range kinds() {
		w := begun(t, kind)
		o := w.worked()
		for range 3 {
			for _, c := range append(writing(o), idle(o)...) {
				if _, e := c.do(w.p); e == api.ErrIdpBad || e == api.ErrIdpOff {
					t.Errorf("%s: %d", c.what, e)
				}
			}
			w.open()
		}
	}
}

// TestP17_2List: a list without room for one more entry is no provider's.
func TestP17_2List(t *testing.T) {
	const most = (api.MaxValue - 2) / 33
	for n := most - 1; n <= most; n++ {
		w := begun(t, sealed)
		_, _, i := w.issued()
		w.spoil(func(x *ledger.Tx) {
			var l []api.Revoked
			for k := range n {
				l = append(l, api.Revoked{Grant: uint64(1000 + k), ID: draw(1), Exp: 90})
			}
			x.SetRevoked(l)
		})
		want := api.OK
		if n == most {
			want = api.ErrIdpBad
		}
		before := w.version()
		wantErrno(t, "Revoke", w.p.Revoke("shop", "s", i.Access), want)
		w.taken("the token", n == most, i.Access)
		if v := w.version() - before; (v == 0) != (n == most) {
			t.Errorf("%d entries: %d batches", n, v)
		}
	}
}
