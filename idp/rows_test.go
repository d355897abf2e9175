package idp_test

import (
	"fmt"
	"slices"
	"testing"

	"postern/api"
	"postern/disk"
	"postern/idp"
	"postern/ledger"
	"postern/store"
)

// TestP17_3Zero: the draw of noughts is one like others: its texts alone are known by it.
func TestP17_3Zero(t *testing.T) {
	zero := func(w *world, at int) {
		w.h.other = func(n int) ([]api.ID, bool) {
			l := w.h.draws(n)
			l[at] = api.ID{}
			return l, true
		}
	}
	for _, kind := range kinds() {
		w := begun(t, kind)
		zero(w, 0)
		s := w.login("ann")
		wantSame(t, "the session", s, "se_AAAAAAAAAAAAAAAAAAAAAA")
		for _, other := range otherTexts("se_", api.ID{}) {
			w.refused("Logout of "+other, api.ErrIdpSession, func() (any, api.Errno) { return only(w.p.Logout(other)) })
		}
		w.consent(s, "shop", "a")
		code := w.code(s)
		for _, other := range otherTexts("ac_", api.ID{}) {
			w.refused("Exchange of "+other, api.ErrIdpGrant, func() (any, api.Errno) {
				i, e := w.p.Exchange("shop", "s", other, "x", "")
				return i, e
			})
		}
		zero(w, 1)
		i := w.exchange(code)
		wantSame(t, "the refresh token", i.Refresh, "rt_AAAAAAAAAAAAAAAAAAAAAA")
		for _, other := range otherTexts("rt_", api.ID{}) {
			w.refused("Renew of "+other, api.ErrIdpGrant, func() (any, api.Errno) {
				i, e := w.p.Renew("shop", "s", other, nil)
				return i, e
			})
		}
		w.h.other = nil
		w.renew(i.Refresh)
		wantErrno(t, "Logout", w.p.Logout(s), api.OK)
	}
}

// TestP17_12Held: a live grant is held as long as its access token or its refresh token is there, a dead one as long as an access token is not expired.
func TestP17_12Held(t *testing.T) {
	for _, lives := range [][2]int64{{10, 100}, {100, 10}} {
		for _, dies := range []bool{false, true} {
			w := peopled(t, changed(func(c *api.Config) {
				c.Engine, c.Access, c.Refresh, c.Code, c.Session = held, lives[0], lives[1], 1000, 1000
			}))
			s := w.session()
			var tokens []string
			for range api.MaxGrants {
				tokens = append(tokens, w.exchange(w.code(s)).Refresh)
			}
			if dies {
				for _, refresh := range tokens {
					w.p.Revoke("shop", "s", refresh)
				}
			}
			end := int64(100)
			if dies {
				end = lives[0]
			}
			// The codes are as many as may be, too.
			w.spoil(func(x *ledger.Tx) {
				for _, c := range x.Codes() {
					x.DropCode(c.ID)
				}
			})
			code := w.code(s)
			exchange := func() (any, api.Errno) { i, e := w.p.Exchange("shop", "s", code, "x", ""); return i, e }
			for _, n := range []int64{9, 1, end - 11} {
				w.tick(max(n, 0))
				if w.state().Clock < end {
					w.refused(fmt.Sprint("full at ", w.state().Clock), api.ErrIdpFull, exchange)
				}
			}
			w.tick(end - w.state().Clock)
			w.exchange(code)
		}
	}
}

// TestP17_12Rows: the same of rows that are not held, and stand there past the provider.
func TestP17_12Rows(t *testing.T) {
	w := begun(t, sealed)
	code := w.code(w.session())
	g := api.Grant{User: "ann", Client: "shop", Scopes: []string{"a"}, Engine: held}
	for what, row := range map[string]struct {
		live      bool
		exp, last int64
		held      bool
	}{
		"live, both":         {true, 1, 1, true},
		"live, Exp alone":    {true, 1, 0, true},
		"live, Last alone":   {true, 0, 1, true},
		"live, none":         {true, 0, 0, false},
		"dead, both":         {false, 1, 1, true},
		"dead, Exp alone":    {false, 1, 0, false},
		"dead, Last alone":   {false, 0, 1, true},
		"dead, none":         {false, 0, 0, false},
		"live, Exp for long": {true, last, first, true},
		"dead, Exp for long": {false, last, first, false},
	} {
		for n := api.MaxGrants - 1; n <= api.MaxGrants; n++ {
			v := w.copied()
			v.spoil(func(x *ledger.Tx) {
				for k := range n {
					g.N, g.Live, g.Exp, g.Last = uint64(10+k), row.live, row.exp, row.last
					x.PutGrant(g)
				}
			})
			want := api.OK
			if row.held && n == api.MaxGrants {
				want = api.ErrIdpFull
			}
			_, e := v.p.Exchange("shop", "s", code, "x", "")
			wantErrno(t, fmt.Sprint(what, n), e, want)
		}
	}
}

// TestP17_14Rows: of what nobody has handed out nothing is dropped, whatever the rows say.
func TestP17_14Rows(t *testing.T) {
	for _, kind := range kinds() {
		w := begun(t, kind)
		_, code, _ := w.issued() // 5; 6; 7 and 8
		h := api.Held{Claims: api.Claims{Iss: "iss", Sub: "ann", Client: "shop", Aud: "api", Scopes: []string{"a"}, Grant: 1, Exp: 10, ID: draw(100)}, Kid: 1}
		token := text("at_", draw(100))
		for what, row := range map[string]struct {
			spoil   func(x *ledger.Tx)
			dropped bool
		}{
			"as it may be": {func(x *ledger.Tx) {}, true},
			"beyond Last": {func(x *ledger.Tx) {
				r, _ := x.Held(draw(100))
				r.Claims.Exp = 11
				x.PutHeld(r)
			}, false},
			"a dead grant": {func(x *ledger.Tx) {
				g, _ := x.Grant(1)
				g.Live = false
				x.PutGrant(g)
				x.DropRefresh(draw(8))
			}, false},
			"no grant": {func(x *ledger.Tx) {
				x.DropGrant(1)
				x.DropRefresh(draw(8))
			}, false},
			"another client's": {func(x *ledger.Tx) {
				r, _ := x.Held(draw(100))
				r.Claims.Client = "more"
				x.PutHeld(r)
			}, false},
			"an entry of the grant": {func(x *ledger.Tx) { x.SetRevoked([]api.Revoked{{Grant: 1, ID: draw(200), Exp: 10}}) }, false},
			"an expired entry":      {func(x *ledger.Tx) { x.SetRevoked([]api.Revoked{{Grant: 1, ID: draw(200), Exp: 1}}) }, true},
			"another one's entry":   {func(x *ledger.Tx) { x.SetRevoked([]api.Revoked{{Grant: 2, ID: draw(200), Exp: 10}}) }, true},
		} {
			v := w.copied()
			v.tick(1)
			v.spoil(func(x *ledger.Tx) {
				x.PutHeld(h)
				row.spoil(x)
			})
			before := pairsOf(v.ledger())
			v.taken(what, true, token)
			wantErrno(t, what, v.p.Revoke("shop", "s", token), api.OK)
			v.taken(what+", revoked", !row.dropped, token)
			if got := slices.Contains(differing(before, pairsOf(v.ledger())), heldKey(100)); got != row.dropped {
				t.Errorf("%s: dropped: %v", what, got)
			}
		}
		// A dead grant does not die again.
		v := w.copied()
		v.spoil(func(x *ledger.Tx) {
			g, _ := x.Grant(1)
			g.Live, g.Sealed = false, 10
			x.PutGrant(g)
			x.PutHeld(h)
		})
		v.refused("a dead grant's code", api.ErrIdpGrant, func() (any, api.Errno) {
			i, e := v.p.Exchange("shop", "s", code, "x", "")
			return i, e
		})
		v.taken("a dead grant's token", true, token)
	}
}

// laid tells a disk whose pairs are these rows, whatever a provider's store may hold.
func laid(t *testing.T, do func(x *ledger.Tx)) *disk.Disk {
	t.Helper()
	d, e := disk.New(api.MaxRoom)
	wantErrno(t, "New", e, api.OK)
	s, e := store.Open(d, api.Limits{Pairs: api.MaxPairs, Weight: api.MaxWeight, Log: api.MaxWeight})
	wantErrno(t, "store.Open", e, api.OK)
	x := ledger.Begin(s)
	do(x)
	wantErrno(t, "Commit", x.Commit(), api.OK)
	return d
}

// begins lays the rows of a provider that has just begun.
func begins(x *ledger.Tx) {
	x.SetConfig(config(sealed))
	x.SetNext(1)
	x.SetShift(api.Shift{From: sealed})
	x.SetRing(api.Ring{Keys: []api.Key{{Kid: 1}}, Next: 2})
}

// weigh tells what a transaction's pairs weigh.
func weigh(x *ledger.Tx) int {
	n := 0
	for k, v := range pairsOf(x) {
		n += len(k) + len(v) + 16
	}
	return n
}

// TestP17_9Long: a password, or a secret, of more than MaxPassword bytes is never the right one, whatever digest stands there.
func TestP17_9Long(t *testing.T) {
	for n := api.MaxPassword; n <= api.MaxPassword+1; n++ {
		w := begun(t, sealed)
		w.spoil(func(x *ledger.Tx) {
			u, _ := x.User("ann")
			u.Digest = passOf(u.Salt, long(n), 2)
			x.PutUser(u)
			c, _ := x.Client("shop")
			c.Digest = passOf(c.Salt, long(n), 2)
			x.PutClient(c)
		})
		login, auth := api.OK, api.OK
		if n > api.MaxPassword {
			login, auth = api.ErrIdpLogin, api.ErrIdpAuth
		}
		_, e := w.p.Login("ann", long(n))
		wantErrno(t, "Login", e, login)
		_, _, e = w.p.Introspect("shop", long(n), "")
		wantErrno(t, "Introspect", e, auth)
	}
}

// TestP17_6Store: the store's limits: so many pairs, so much weight.
func TestP17_6Store(t *testing.T) {
	wide := func(size int) []string {
		var l []string
		for size > 0 {
			n := min(size, 256)
			l = append(l, long(n))
			size -= n
		}
		return l
	}
	for more := range 2 {
		want := map[int]api.Errno{1: api.ErrIdpBad}[more]
		d := laid(t, func(x *ledger.Tx) {
			begins(x)
			for n := len(pairsOf(x)); n < 1<<13+more; n++ {
				x.PutConsent(api.Consent{User: "u", Client: fmt.Sprint(n)})
			}
		})
		_, e := idp.Open(d, config(sealed), &hand{})
		wantErrno(t, "pairs", e, want)
		d = laid(t, func(x *ledger.Tx) {
			begins(x)
			left := 1<<23 + more - weigh(x)
			for n := 0; left > 0; n++ {
				r := api.Consent{User: "u", Client: fmt.Sprintf("%04d", n), Scopes: wide(api.MaxScopes * 256)}
				// A row of no scopes, and of each scope four bytes more.
				bare := 16 + 1 + 5 + 8 + 5 + 8 + 1
				full := bare + 16*260
				if left < 2*full {
					size := left
					if left > full {
						size = left / 2
					}
					k := (size - bare + 259) / 260
					r.Scopes = wide(size - bare - 4*k)
				}
				x.PutConsent(r)
				left -= weightOf(r)
			}
			if got := weigh(x); got != 1<<23+more {
				t.Fatalf("it weighs %d", got)
			}
		})
		_, e = idp.Open(d, config(sealed), &hand{})
		wantErrno(t, "the weight", e, want)
	}
}

// weightOf tells what a consent's pair weighs.
func weightOf(r api.Consent) int {
	n := 16 + len(consentKey(r.User, r.Client)) + 8 + len(r.User) + len(r.Client) + 1
	for _, s := range r.Scopes {
		n += 4 + len(s)
	}
	return n
}

// TestP17_6Log: the log grows up to 2^20 bytes ahead of a compaction.
func TestP17_6Log(t *testing.T) {
	w := opened(t, config(sealed))
	grown := 0
	for range 20000 {
		w.p.AddUser("ann", "pw")
		w.p.RemoveUser("ann")
		names, _ := w.d.Names()
		if len(names) > 1 || names[0] != "log.0" {
			break
		}
		grown, _ = w.d.Size("log.0")
	}
	if grown > 1<<20 || grown < 1<<20-1000 {
		t.Errorf("the log has grown to %d bytes", grown)
	}
	wantErrno(t, "AddUser", w.p.AddUser("bob", "pw"), api.OK)
	all := w.all()
	w.open()
	wantSame(t, "opened", w.all(), all)
}

// TestP17_4Great: great things that are handed in are refused in time.
func TestP17_4Great(t *testing.T) {
	w := begun(t, held)
	s := w.session()
	const size = 1 << 18
	l := numbered("s", size)
	w.refused("redirects", api.ErrIdpName, func() (any, api.Errno) {
		return only(w.p.AddClient(client(func(c *api.Client) { c.ID, c.Redirects = "app", l }), "s"))
	})
	w.refused("scopes", api.ErrIdpName, func() (any, api.Errno) {
		return only(w.p.AddClient(client(func(c *api.Client) { c.ID, c.Scopes = "app", l }), "s"))
	})
	w.refused("a consent", api.ErrIdpScope, func() (any, api.Errno) { return only(w.p.Consent(s, "shop", l)) })
	w.refused("a code", api.ErrIdpScope, func() (any, api.Errno) { c, e := w.p.Authorize(s, "shop", "x", l, ""); return c, e })
	great := long(1 << 22)
	w.refused("a text", api.ErrIdpSession, func() (any, api.Errno) { return only(w.p.Logout("se_" + great)) })
	w.refused("a redirect", api.ErrIdpRedirect, func() (any, api.Errno) { c, e := w.p.Authorize(s, "shop", great, nil, ""); return c, e })
	w.taken("a text", false, great, "at_"+great, great+"."+great+"."+great)
}
