package idp_test

import (
	"strings"
	"testing"

	"postern/api"
	"postern/claim"
	"postern/ledger"
	"postern/seal"
)

func TestP17_13Renew(t *testing.T) {
	for _, kind := range kinds() {
		for _, lives := range [][2]int64{{10, 100}, {100, 60}} {
			w := peopled(t, changed(func(c *api.Config) { c.Engine, c.Access, c.Refresh, c.Session = kind, lives[0], lives[1], 500 }))
			s := w.session()
			w.tick(3)
			i := w.exchange(w.codeOf(s, "shop", "a", "b")) // draws 6; 7 and 8
			first := i
			for n, row := range []struct{ l, want []string }{
				{nil, []string{"a", "b"}},
				{[]string{}, []string{"a", "b"}},
				{[]string{"a"}, []string{"a"}},
				{[]string{"b", "a", "b"}, []string{"a", "b"}},
				{[]string{"b"}, []string{"b"}},
			} {
				w.tick(7)
				now, at, g := w.state().Clock, w.h.drawn, w.grant(1)
				keys := []string{grantKey(1), refreshKey(at + 2)}
				if kind == held {
					keys = append(keys, heldKey(at+1))
				}
				var k api.Issued
				w.drawing("Renew", 2, func() {
					w.doing("Renew", func() {
						var e api.Errno
						k, e = w.p.Renew("shop", "s", i.Refresh, row.l)
						wantErrno(t, "Renew", e, api.OK)
					}, keys...)
				})
				wantSame(t, "issued", k, api.Issued{Access: k.Access, Refresh: text("rt_", draw(at+2)), Scopes: row.want, Exp: now + lives[0], Life: lives[0]})
				g.Current, g.Exp, g.Last, g.Issues = draw(at+2), now+lives[1], now+lives[0], n+2
				if kind == sealed {
					g.Sealed = now + lives[0]
				}
				wantSame(t, "the grant", w.grant(1), g)
				got, is, e := w.p.Find(k.Access)
				wantErrno(t, "Find", e, api.OK)
				wantSame(t, "the claims", found{got, is}, found{api.Claims{Iss: "iss", Sub: "ann", Client: "shop", Aud: "api", Scopes: row.want, Grant: 1, Iat: now, Exp: now + lives[0], ID: draw(at + 1)}, true})
				has := map[api.ID]int64{}
				for _, r := range w.state().Refreshes {
					has[r.ID] = r.Exp
				}
				if has[draw(at+2)] != now+lives[1] || (lives[1] == 100 && has[draw(8)] != 103) {
					t.Errorf("refresh tokens: %v", has)
				}
				w.taken("the one ahead of it", lives[0] > 7, i.Access)
				i = k
			}
			w.taken("the first one", lives[0] > 35, first.Access)
		}
	}
}

// TestP17_13Again: a refresh token that is not the current one lets its grant die (W9), till its own Exp.
func TestP17_13Again(t *testing.T) {
	for _, kind := range kinds() {
		w := begun(t, kind)
		c := shop()
		c.ID = "more"
		w.addClient(c, "s")
		_, _, i := w.issued() // draw 6; 7; 8 and 9
		w.tick(5)
		k := w.renew(i.Refresh) // 10 and 11
		renew := func(v *world, client, refresh string, l []string) func() (any, api.Errno) {
			return func() (any, api.Errno) { i, e := v.p.Renew(client, "s", refresh, l); return i, e }
		}
		for _, r := range []string{i.Refresh, k.Refresh} {
			w.refused("another client's", api.ErrIdpGrant, renew(w, "more", r, nil))
		}
		for _, l := range [][]string{nil, {"a"}, {"z"}, {""}} {
			v := w.copied()
			keys := []string{grantKey(1), refreshKey(9), refreshKey(11)}
			if kind == held {
				keys = append(keys, heldKey(8), heldKey(10))
			} else {
				keys = append(keys, revokedKey)
			}
			v.changing("once more", api.ErrIdpGrant, renew(v, "shop", i.Refresh, l), keys...)
			v.taken("once more", false, i.Access, k.Access)
			for _, r := range []string{i.Refresh, k.Refresh} {
				v.refused("a third time", api.ErrIdpGrant, renew(v, "shop", r, nil))
			}
		}
		w.tick(94)
		v := w.copied()
		v.changing("at its last moment", api.ErrIdpGrant, renew(v, "shop", i.Refresh, nil), grantKey(1), refreshKey(9), refreshKey(11))
		w.tick(1)
		w.refused("expired", api.ErrIdpGrant, renew(w, "shop", i.Refresh, nil))
		w.renew(k.Refresh)
	}
}

func TestP17_13Errors(t *testing.T) {
	for _, kind := range kinds() {
		w := begun(t, kind)
		c := shop()
		c.ID = "more"
		w.addClient(c, "s")
		s, code, i := w.issued() // draw 9
		renew := func(client, refresh string, l []string) func() (any, api.Errno) {
			return func() (any, api.Errno) { i, e := w.p.Renew(client, "s", refresh, l); return i, e }
		}
		w.h.other = badDraws(2)["a panic"]
		w.refused("another secret", api.ErrIdpAuth, func() (any, api.Errno) { i, e := w.p.Renew("shop", "S", i.Refresh, []string{"z"}); return i, e })
		for _, other := range append(otherTexts("rt_", draw(9)), s, code, i.Access) {
			w.refused("a refresh token", api.ErrIdpGrant, renew("shop", other, []string{"z"}))
		}
		w.refused("another client's", api.ErrIdpGrant, renew("more", i.Refresh, []string{"z"}))
		// b may be asked for of the client, and is in the consent; the grant has a alone.
		for _, l := range append(badScopes(), []string{"b"}, []string{"a", "b"}) {
			w.refused("scopes", api.ErrIdpScope, renew("shop", i.Refresh, l))
		}
		w.h.other = nil
		for n := 1; n < api.MaxIssues; n++ {
			i = w.renew(i.Refresh)
		}
		wantSame(t, "Issues", w.grant(1).Issues, api.MaxIssues)
		w.h.other = badDraws(2)["a panic"]
		w.refused("scopes, full", api.ErrIdpScope, renew("shop", i.Refresh, []string{"b"}))
		w.refused("full", api.ErrIdpFull, renew("shop", i.Refresh, nil))
		w.tick(99)
		w.refused("full still", api.ErrIdpFull, renew("shop", i.Refresh, nil))
		w.taken("its last one, then", false, i.Access)
		w.tick(1)
		w.refused("expired", api.ErrIdpGrant, renew("shop", i.Refresh, nil))
		wantSame(t, "grants", w.state().Grants, []api.Grant{})
	}
}

// TestP17_13Full: full goes ahead of the clock.
func TestP17_13Full(t *testing.T) {
	w := peopled(t, changed(func(c *api.Config) { c.Access, c.Refresh, c.Session = 20, 10, 1 }))
	w.tick(last - 20)
	_, _, i := w.issued()
	for n := 1; n < api.MaxIssues; n++ {
		i = w.renew(i.Refresh)
	}
	w.tick(1)
	w.refused("full", api.ErrIdpFull, func() (any, api.Errno) { i, e := w.p.Renew("shop", "s", i.Refresh, nil); return i, e })
}

// TestP17_13Engine: a grant that a step has moved mints by its new engine; what it had minted is taken still, and dies with it.
func TestP17_13Engine(t *testing.T) {
	for _, kind := range kinds() {
		w := begun(t, kind)
		_, _, i := w.issued()
		wantErrno(t, "Begin", w.p.Begin(sealed+held-kind), api.OK)
		k := w.renew(i.Refresh)
		wantSame(t, "the form ahead of the step", strings.HasPrefix(k.Access, "at_"), kind == held)
		n, ended, e := w.p.Step(1)
		wantSame(t, "Step", step{n, ended}, step{1, false})
		wantErrno(t, "Step", e, api.OK)
		l := w.renew(k.Refresh)
		wantSame(t, "the form behind the step", strings.HasPrefix(l.Access, "at_"), kind == sealed)
		w.taken("all of them", true, i.Access, k.Access, l.Access)
		wantErrno(t, "Revoke", w.p.Revoke("shop", "s", k.Access), api.OK)
		w.taken("the one", false, k.Access)
		w.taken("the others", true, i.Access, l.Access)
		wantErrno(t, "Revoke", w.p.Revoke("shop", "s", l.Refresh), api.OK)
		w.taken("all of them", false, i.Access, k.Access, l.Access)
		wantSame(t, "entries", len(w.revoked()), 1)
		wantSame(t, "held tokens", w.held(), []api.Held{})
	}
}

func TestP17_14Revoke(t *testing.T) {
	for _, kind := range kinds() {
		w := begun(t, kind)
		c := shop()
		c.ID = "more"
		w.addClient(c, "s")
		_, code, i := w.issued() // draw 6; 7; 8 and 9
		k := w.renew(i.Refresh)  // 10 and 11
		revoke := func(client, token string, keys ...string) {
			t.Helper()
			w.drawing("Revoke", 0, func() {
				w.doing("Revoke of "+token, func() { wantErrno(t, "Revoke", w.p.Revoke(client, "s", token), api.OK) }, keys...)
			})
		}
		for _, token := range append(append(otherTexts("rt_", draw(9)), otherTexts("at_", draw(99))...), code, "a.b.c", "..", i.Access+".", "."+i.Access) {
			revoke("shop", token)
		}
		revoke("more", i.Access)
		revoke("more", i.Refresh)
		w.taken("another client's", true, i.Access, k.Access)
		w.refused("another secret", api.ErrIdpAuth, func() (any, api.Errno) { return only(w.p.Revoke("shop", "no", i.Access)) })
		if kind == held {
			revoke("shop", i.Access, heldKey(8))
		} else {
			revoke("shop", i.Access, revokedKey)
			wantSame(t, "the list", w.revoked(), []api.Revoked{{Grant: 1, ID: draw(8), Exp: 10}})
		}
		revoke("shop", i.Access)
		w.taken("the one", false, i.Access)
		w.taken("the other one", true, k.Access)
		v := w.copied()
		for _, r := range []string{i.Refresh, k.Refresh} {
			v := w.copied()
			keys := []string{grantKey(1), refreshKey(9), refreshKey(11)}
			if kind == held {
				keys = append(keys, heldKey(10))
			} else {
				keys = append(keys, revokedKey)
			}
			v.doing("Revoke of a refresh token", func() { wantErrno(t, "Revoke", v.p.Revoke("shop", "s", r), api.OK) }, keys...)
			v.taken("none", false, i.Access, k.Access)
			v.doing("once more", func() {
				for _, token := range []string{r, i.Access, k.Access, k.Refresh} {
					wantErrno(t, "Revoke", v.p.Revoke("shop", "s", token), api.OK)
				}
			})
		}
		v.renew(k.Refresh)
		// What is expired is not dropped.
		v.tick(10)
		v.doing("an expired one", func() { v.p.Revoke("shop", "s", k.Access) })
	}
}

// forged tells a sealed token of these claims by a key of the ring.
func (w *world) forged(c api.Claims) string {
	w.t.Helper()
	wantErrno(w.t, "claims", claim.Check(c), api.OK)
	token, e := seal.Mint(w.ring().Keys[0], c)
	wantErrno(w.t, "Mint", e, api.OK)
	return token
}

// TestP17_14Forged: a token that somebody else has made with a key of the ring is taken, and is dropped only as far as a provider's own could be: it can't fill the list.
func TestP17_14Forged(t *testing.T) {
	for _, kind := range kinds() {
		w := begun(t, kind)
		_, _, i := w.issued()
		w.renew(i.Refresh)
		g := w.grant(1) // Issues 2, Last 10
		own := api.Claims{Iss: "iss", Sub: "ann", Client: "shop", Aud: "api", Scopes: []string{"a"}, Grant: 1, Iat: 0, Exp: 10, ID: draw(99)}
		for what, row := range map[string]struct {
			change  func(c *api.Claims)
			taken   bool
			dropped bool
		}{
			"as its own":          {func(c *api.Claims) {}, true, kind == sealed},
			"another user":        {func(c *api.Claims) { c.Sub = "eve" }, true, kind == sealed},
			"an earlier end":      {func(c *api.Claims) { c.Exp = 5 }, true, kind == sealed},
			"a later end":         {func(c *api.Claims) { c.Exp = 11 }, true, false},
			"a much later end":    {func(c *api.Claims) { c.Exp = last }, true, false},
			"another client":      {func(c *api.Claims) { c.Client = "more" }, true, false},
			"no such grant":       {func(c *api.Claims) { c.Grant = 2 }, true, false},
			"a grant far away":    {func(c *api.Claims) { c.Grant = 1<<63 - 1 }, true, false},
			"another issuer":      {func(c *api.Claims) { c.Iss = "isss" }, false, false},
			"another one's words": {func(c *api.Claims) { c.Iss = "Iss" }, false, false},
		} {
			v := w.copied()
			c := own
			row.change(&c)
			token := v.forged(c)
			v.taken(what, row.taken, token)
			keys := []string{revokedKey}
			if !row.dropped {
				keys = nil
			}
			v.doing(what, func() { wantErrno(t, what, v.p.Revoke("shop", "s", token), api.OK) }, keys...)
			v.taken(what+", revoked", row.taken && !row.dropped, token)
		}
		// Of a dead grant none, of its own entry for the whole none is left to be taken.
		v := w.copied()
		token := v.forged(own)
		wantErrno(t, "Revoke", v.p.Revoke("shop", "s", i.Refresh), api.OK)
		v.taken("a dead grant's", kind == held, token)
		v.doing("a dead grant's", func() { v.p.Revoke("shop", "s", token) })
		// As many as the grant has issued.
		for n := range uint64(5) {
			c := own
			c.ID = draw(100 + n)
			w.p.Revoke("shop", "s", w.forged(c))
			want := min(int(n)+1, g.Issues)
			if kind == held {
				want = 0
			}
			wantSame(t, "entries", len(w.revoked()), want)
		}
	}
}

// TestP17_14Mixed: of a grant that has moved both kinds of tokens are dropped, each by its own engine; entries of the list count for both.
func TestP17_14Mixed(t *testing.T) {
	w := begun(t, sealed)
	_, _, i := w.issued()
	w.p.Begin(held)
	w.p.Step(1)
	w.tick(3)
	k := w.renew(i.Refresh) // Sealed 10, Last 13, Issues 2
	own := api.Claims{Iss: "iss", Sub: "ann", Client: "shop", Aud: "api", Scopes: []string{"a"}, Grant: 1, Iat: 0, Exp: 11, ID: draw(99)}
	v := w.copied()
	v.doing("beyond Sealed", func() { v.p.Revoke("shop", "s", v.forged(own)) })
	own.Exp = 10
	v.doing("not beyond Sealed", func() { v.p.Revoke("shop", "s", v.forged(own)) }, revokedKey)
	v.doing("the held one", func() { v.p.Revoke("shop", "s", k.Access) }, heldKey(9))
	v.doing("the sealed one", func() { v.p.Revoke("shop", "s", i.Access) }, revokedKey)
	v.taken("both", false, i.Access, k.Access)
	v = w.copied()
	v.p.Revoke("shop", "s", v.forged(own))
	v.p.Revoke("shop", "s", i.Access)
	wantSame(t, "entries", len(v.revoked()), 2)
	v.doing("no more than were issued", func() { v.p.Revoke("shop", "s", k.Access) })
	// Entries of other grants don't count.
	v = w.copied()
	v.spoil(func(x *ledger.Tx) {
		x.SetRevoked([]api.Revoked{{Grant: 2, ID: draw(1), Exp: 20}, {Grant: 2, ID: draw(2), Exp: 20}, {Whole: true, Grant: 3, Exp: 20}})
	})
	v.doing("the held one", func() { v.p.Revoke("shop", "s", k.Access) }, heldKey(9))
	v.doing("the sealed one", func() { v.p.Revoke("shop", "s", i.Access) }, revokedKey)
}

func TestP17_15Withdraw(t *testing.T) {
	for _, kind := range kinds() {
		p := newPeers(t, kind)
		rest := []string{"ann more", "bob shop", "bob more"}
		p.drawing("Withdraw", 0, func() {
			n, e := p.p.Withdraw(p.ann2, "shop")
			wantSame(t, "Withdraw", n, 1)
			wantErrno(t, "Withdraw", e, api.OK)
		})
		p.wantPeers("Withdraw", rest, rest, rest)
		for _, s := range []string{p.ann, p.ann2, p.bob} {
			wantErrno(t, "a session", p.copied().p.Logout(s), api.OK)
		}
		p.doing("Withdraw once more", func() {
			n, e := p.p.Withdraw(p.ann, "shop")
			wantSame(t, "Withdraw", n, 0)
			wantErrno(t, "Withdraw", e, api.OK)
		})
		p.consent(p.ann, "shop", "a")
		p.exchange(p.code(p.ann))
		p.exchange(p.code(p.ann))
		if n, e := p.p.Withdraw(p.ann, "shop"); n != 2 || e != api.OK {
			t.Errorf("Withdraw of two: %d, %d", n, e)
		}
	}
}

func TestP17_15Errors(t *testing.T) {
	w := begun(t, held)
	w.addUser("bob")
	s := w.login("ann") // draw 6
	for _, other := range otherTexts("se_", draw(6)) {
		w.refused("a session", api.ErrIdpSession, func() (any, api.Errno) { n, e := w.p.Withdraw(other, "eve"); return n, e })
	}
	for _, id := range append(badNames(), "eve", "ann", "bob") {
		w.refused("a client", api.ErrIdpClient, func() (any, api.Errno) { n, e := w.p.Withdraw(s, id); return n, e })
	}
	w.consent(s, "shop", "a")
	w.doing("the consent alone", func() { w.p.Withdraw(s, "shop") }, consentKey("ann", "shop"))
}

func TestP17_16Find(t *testing.T) {
	for _, kind := range kinds() {
		w := begun(t, kind)
		w.addClient(public("app"), "")
		_, code, i := w.issued() // draw 5; 6; 7 and 8
		want := found{api.Claims{Iss: "iss", Sub: "ann", Client: "shop", Aud: "api", Scopes: []string{"a"}, Grant: 1, Exp: 10, ID: draw(7)}, true}
		asks := map[string]func(token string) (found, api.Errno){
			"Find": func(token string) (found, api.Errno) { c, is, e := w.p.Find(token); return found{c, is}, e },
			"Introspect": func(token string) (found, api.Errno) {
				c, is, e := w.p.Introspect("shop", "s", token)
				return found{c, is}, e
			},
			"Introspect by another client": func(token string) (found, api.Errno) {
				c, is, e := w.p.Introspect("app", "", token)
				return found{c, is}, e
			},
		}
		near := append(otherTexts("at_", draw(99)), code, i.Refresh, "..", "a.b.c", i.Access+".", "."+i.Access, " "+i.Access, i.Access+" ")
		for n := range i.Access {
			near = append(near, i.Access[:n], i.Access[n+1:], i.Access[:n]+"x"+i.Access[n:], i.Access[:n]+string(i.Access[n]^1)+i.Access[n+1:])
		}
		for what, ask := range asks {
			got, e := ask(i.Access)
			wantSame(t, what, got, want)
			wantErrno(t, what, e, api.OK)
			w.drawing(what, 0, func() {
				w.doing(what, func() {
					for _, token := range near {
						if got, e := ask(token); got.taken || e != api.OK || got.claims.Iss != "" {
							t.Errorf("%s of %q: %v, %d", what, token, got, e)
						}
					}
				})
			})
		}
		w.tick(9)
		w.taken("its last moment", true, i.Access)
		w.tick(1)
		w.taken("its end", false, i.Access)
	}
}

// TestP17_16Issuer: a held token of another issuer is not taken, whoever has laid it there.
func TestP17_16Issuer(t *testing.T) {
	w := begun(t, held)
	_, _, i := w.issued()
	w.spoil(func(x *ledger.Tx) {
		h, _ := x.Held(draw(7))
		h.Claims.Iss = "other"
		x.PutHeld(h)
	})
	w.taken("another issuer's", false, i.Access)
	w.doing("Revoke of it", func() { w.p.Revoke("shop", "s", i.Access) })
}
