package idp_test

import (
	"strings"
	"testing"

	"postern/api"
	"postern/digest"
	"postern/radix"
)

func challengeOf(verifier string) string {
	sum := digest.Sum([]byte(verifier))
	return radix.Text64(sum[:])
}

func TestP17_11Authorize(t *testing.T) {
	for _, kind := range kinds() {
		w := opened(t, config(kind))
		w.addUser("ann")
		c := shop()
		c.Redirects = []string{"y", "x", long(256)}
		w.addClient(c, "s")
		w.addClient(public("app"), "")
		s := w.session()
		w.consent(s, "app", "b")
		w.tick(3)
		for _, row := range []struct {
			client, redirect string
			scopes           []string
			challenge        string
			want             []string
		}{
			{"shop", "x", []string{"a"}, "", []string{"a"}},
			{"shop", "y", []string{"b", "a", "b"}, "", []string{"a", "b"}},
			{"shop", long(256), []string{"b"}, challengeOf("v"), []string{"b"}},
			{"app", "x", []string{"b"}, strings.Repeat("A", 43), []string{"b"}},
			{"app", "x", []string{"b"}, strings.Repeat("_", 42) + "8", []string{"b"}},
		} {
			n := w.h.drawn + 1
			var text64 string
			w.drawing("Authorize", 1, func() {
				w.doing("Authorize", func() {
					code, e := w.p.Authorize(s, row.client, row.redirect, row.scopes, row.challenge)
					wantErrno(t, "Authorize", e, api.OK)
					text64 = code
				}, codeKey(n))
			})
			wantSame(t, "the text", text64, text("ac_", draw(n)))
			l := w.state().Codes
			wantSame(t, "the code", l[len(l)-1], api.Code{ID: draw(n), User: "ann", Client: row.client, Redirect: row.redirect, Scopes: row.want, Challenge: row.challenge, Exp: 8})
		}
	}
}

func TestP17_11Errors(t *testing.T) {
	for _, full := range []bool{true, false} {
		w := peopled(t, changed(func(c *api.Config) { c.Session, c.Code = 7, 20 }))
		w.addClient(public("app"), "")
		w.addUser("bob")
		w.tick(last - 20)
		s, r := w.login("ann"), w.login("bob") // draws 6 and 7
		w.consent(s, "shop", "a")
		w.consent(s, "app", "a")
		w.consent(r, "shop", "b")
		ask := func(session, client, redirect string, l []string, challenge string) func() (any, api.Errno) {
			return func() (any, api.Errno) { c, e := w.p.Authorize(session, client, redirect, l, challenge); return c, e }
		}
		good := ask(s, "shop", "x", []string{"a"}, "")
		for range map[bool]int{true: api.MaxCodes}[full] {
			w.code(s)
		}
		w.tick(1)
		w.h.other = badDraws(1)["a panic"]
		for _, other := range otherTexts("se_", draw(6)) {
			w.refused("a session", api.ErrIdpSession, ask(other, "eve", "z", nil, "!"))
		}
		for _, id := range append(badNames(), "eve", "Shop") {
			w.refused("a client", api.ErrIdpClient, ask(s, id, "z", nil, "!"))
		}
		for _, redirect := range []string{"", "X", "xx", "x ", "y", long(256)} {
			w.refused("a redirect", api.ErrIdpRedirect, ask(s, "shop", redirect, nil, "!"))
		}
		for _, l := range append(badScopes(), nil) {
			w.refused("scopes", api.ErrIdpScope, ask(s, "shop", "x", l, "!"))
		}
		for _, l := range [][]string{{"b"}, {"a", "b"}} {
			w.refused("no consent", api.ErrIdpConsent, ask(s, "shop", "x", l, "!"))
			w.refused("no consent, public", api.ErrIdpConsent, ask(s, "app", "x", l, ""))
		}
		for _, challenge := range []string{"!", "A", strings.Repeat("A", 42), strings.Repeat("A", 44), strings.Repeat("A", 42) + "B", strings.Repeat("A", 42) + "=", strings.Repeat("A", 42) + "+",
			strings.Repeat("A", 42) + " ", challengeOf("v")[:42] + "é", challengeOf("v")[:41] + "é", strings.Repeat("A", 40), challengeOf("v") + "=", challengeOf("v") + "\n"} {
			w.refused("a challenge", api.ErrIdpChallenge, ask(s, "shop", "x", []string{"a"}, challenge))
			w.refused("a challenge, public", api.ErrIdpChallenge, ask(s, "app", "x", []string{"a"}, challenge))
		}
		w.refused("no challenge, public", api.ErrIdpChallenge, ask(s, "app", "x", []string{"a"}, ""))
		want := api.ErrIdpClock
		if full {
			want = api.ErrIdpFull
		}
		w.refused("full, or the clock", want, good)
		w.refused("full, or the clock", want, ask(s, "app", "x", []string{"a"}, challengeOf("v")))
	}
}

// TestP17_11Consent: without any consent, and behind the consent's end.
func TestP17_11Consent(t *testing.T) {
	w := begun(t, held)
	s := w.login("ann")
	ask := func() (any, api.Errno) { c, e := w.p.Authorize(s, "shop", "x", []string{"a"}, ""); return c, e }
	w.refused("none", api.ErrIdpConsent, ask)
	w.consent(s, "shop", "b")
	w.refused("another scope", api.ErrIdpConsent, ask)
	w.consent(s, "shop", "a")
	w.code(s)
	w.p.Withdraw(s, "shop")
	w.refused("withdrawn", api.ErrIdpConsent, ask)
}

func TestP17_12Exchange(t *testing.T) {
	for _, kind := range kinds() {
		for _, lives := range [][2]int64{{10, 100}, {100, 10}, {7, 7}} {
			w := peopled(t, changed(func(c *api.Config) { c.Engine, c.Access, c.Refresh = kind, lives[0], lives[1] }))
			s := w.session()
			w.tick(4)
			for n := range uint64(3) {
				code := w.codeOf(s, "shop", "b", "a")
				at := w.h.drawn
				var i api.Issued
				keys := []string{codeKey(at), grantKey(byte(n + 1)), refreshKey(at + 2), nextKey}
				if kind == held {
					keys = append(keys, heldKey(at+1))
				}
				w.drawing("Exchange", 2, func() {
					w.doing("Exchange", func() { i = w.exchange(code) }, keys...)
				})
				end, exp := 4+lives[1], 4+lives[0]
				wantSame(t, "issued", i, api.Issued{Access: i.Access, Refresh: text("rt_", draw(at+2)), Scopes: []string{"a", "b"}, Exp: exp, Life: lives[0]})
				c := api.Claims{Iss: "iss", Sub: "ann", Client: "shop", Aud: "api", Scopes: []string{"a", "b"}, Grant: n + 1, Iat: 4, Exp: exp, ID: draw(at + 1)}
				g := api.Grant{N: n + 1, User: "ann", Client: "shop", Scopes: c.Scopes, Engine: kind, Live: true, Current: draw(at + 2), Exp: end, Last: exp, Issues: 1}
				if kind == sealed {
					g.Sealed = exp
					wantSame(t, "the form", strings.Count(i.Access, "."), 2)
				} else {
					wantSame(t, "the token", i.Access, text("at_", draw(at+1)))
				}
				wantSame(t, "the grant", w.grant(n+1), g)
				st := w.state()
				wantSame(t, "Next", st.Next, n+2)
				wantSame(t, "the code", st.Codes[len(st.Codes)-1], api.Code{ID: draw(at), User: "ann", Client: "shop", Redirect: "x", Scopes: c.Scopes, Exp: 9, Grant: n + 1})
				wantSame(t, "the refresh token", st.Refreshes[len(st.Refreshes)-1], api.Refresh{ID: draw(at + 2), Grant: n + 1, Exp: end})
				got, is, e := w.p.Find(i.Access)
				wantSame(t, "the claims", found{got, is}, found{c, true})
				wantErrno(t, "Find", e, api.OK)
			}
		}
	}
}

// TestP17_12Again: a code that is handed in once more lets its grant die, if that lives.
func TestP17_12Again(t *testing.T) {
	for _, kind := range kinds() {
		w := peopled(t, changed(func(c *api.Config) { c.Engine, c.Code = kind, 500 }))
		c := shop()
		c.ID = "more"
		w.addClient(c, "s")
		_, code, i := w.issued() // draws 6, 7; 8 and 9
		k := w.renew(i.Refresh)  // 10, 11
		again := func(client, redirect, verifier string) func() (any, api.Errno) {
			return func() (any, api.Errno) { i, e := w.p.Exchange(client, "s", code, redirect, verifier); return i, e }
		}
		w.refused("another client's", api.ErrIdpGrant, again("more", "x", ""))
		w.taken("another client's", true, i.Access, k.Access)
		// Whatever redirect or verifier comes with it.
		for _, row := range [][2]string{{"x", ""}, {"y", ""}, {"x", "v"}} {
			v := w.copied()
			keys := []string{grantKey(1), refreshKey(9), refreshKey(11)}
			if kind == held {
				keys = append(keys, heldKey(8), heldKey(10))
			} else {
				keys = append(keys, revokedKey)
			}
			v.changing("once more", api.ErrIdpGrant, func() (any, api.Errno) { i, e := v.p.Exchange("shop", "s", code, row[0], row[1]); return i, e }, keys...)
			v.taken("once more", false, i.Access, k.Access)
			want := w.grant(1)
			want.Live = false
			wantSame(t, "the grant", v.grant(1), want)
			if kind == sealed {
				wantSame(t, "the list", v.revoked(), []api.Revoked{{Whole: true, Grant: 1, Exp: 10}})
			}
			v.refused("a third time", api.ErrIdpGrant, func() (any, api.Errno) { i, e := v.p.Exchange("shop", "s", code, "x", ""); return i, e })
			for _, r := range []string{i.Refresh, k.Refresh} {
				v.refused("Renew", api.ErrIdpGrant, func() (any, api.Errno) { i, e := v.p.Renew("shop", "s", r, nil); return i, e })
			}
			v.tick(10)
			wantSame(t, "the dead grant at its end", v.state().Grants, []api.Grant{})
			v.refused("behind its end", api.ErrIdpGrant, func() (any, api.Errno) { i, e := v.p.Exchange("shop", "s", code, "x", ""); return i, e })
		}
		w.tick(200)
		wantSame(t, "the grant at its end", w.state().Grants, []api.Grant{})
		w.refused("behind its end", api.ErrIdpGrant, again("shop", "x", ""))
	}
}

func TestP17_12Errors(t *testing.T) {
	for _, kind := range kinds() {
		w := begun(t, kind)
		c := shop()
		c.ID = "more"
		w.addClient(c, "s")
		s := w.session()
		plain := w.code(s) // draw 7
		proved, e := w.p.Authorize(s, "shop", "x", []string{"a"}, challengeOf("v"))
		wantErrno(t, "Authorize", e, api.OK)
		ask := func(client, code, redirect, verifier string) func() (any, api.Errno) {
			return func() (any, api.Errno) { i, e := w.p.Exchange(client, "s", code, redirect, verifier); return i, e }
		}
		w.refused("another secret", api.ErrIdpAuth, func() (any, api.Errno) { i, e := w.p.Exchange("shop", "", plain, "x", ""); return i, e })
		for _, other := range append(otherTexts("ac_", draw(7)), s) {
			w.refused("a code", api.ErrIdpGrant, ask("shop", other, "x", ""))
		}
		w.refused("another client's", api.ErrIdpGrant, ask("more", plain, "x", ""))
		for _, redirect := range []string{"", "X", "y", "xx"} {
			w.refused("a redirect", api.ErrIdpGrant, ask("shop", plain, redirect, ""))
			w.refused("a redirect", api.ErrIdpGrant, ask("shop", proved, redirect, "v"))
		}
		for _, verifier := range []string{"v", "\x00", challengeOf(""), long(129)} {
			w.refused("a verifier where none is", api.ErrIdpGrant, ask("shop", plain, "x", verifier))
		}
		for _, verifier := range []string{"", "V", "v ", "vv", challengeOf("v"), long(128), long(129), long(1 << 16)} {
			w.refused("a verifier", api.ErrIdpGrant, ask("shop", proved, "x", verifier))
		}
		v := w.copied()
		v.exchange(plain)
		_, e = v.p.Exchange("shop", "s", proved, "x", "v")
		wantErrno(t, "the verifier", e, api.OK)
		w.tick(4)
		v = w.copied()
		v.exchange(plain)
		w.tick(1)
		w.refused("a code at its end", api.ErrIdpGrant, ask("shop", plain, "x", ""))
	}
}

// TestP17_12Verifier: the lengths of verifiers; the one of no bytes has a challenge, too.
func TestP17_12Verifier(t *testing.T) {
	w := peopled(t, changed(func(c *api.Config) { c.Code = 500 }))
	w.addClient(public("app"), "")
	s := w.login("ann")
	w.consent(s, "app", "a")
	for _, verifier := range []string{"", "v", "\xff\x00", long(127), long(128), long(129)} {
		code, e := w.p.Authorize(s, "app", "x", []string{"a"}, challengeOf(verifier))
		wantErrno(t, "Authorize", e, api.OK)
		_, e = w.p.Exchange("app", "", code, "x", verifier)
		want := api.OK
		if len(verifier) > api.MaxVerifier {
			want = api.ErrIdpGrant
		}
		wantErrno(t, "Exchange", e, want)
	}
}

// TestP17_12Limits: MaxGrants that are held; dead ones count till their tokens' end; then the clock, then the draws.
func TestP17_12Limits(t *testing.T) {
	for _, kind := range kinds() {
		w := peopled(t, changed(func(c *api.Config) { c.Engine, c.Code, c.Session = kind, 1<<40, 1<<40 }))
		s := w.session()
		exchange := func(code string) func() (any, api.Errno) {
			return func() (any, api.Errno) { i, e := w.p.Exchange("shop", "s", code, "x", ""); return i, e }
		}
		code := w.code(s)
		for range api.MaxCodes - 1 {
			w.exchange(w.code(s))
		}
		w.tick(2)
		i := w.exchange(code)
		wantSame(t, "grants", len(w.state().Grants), api.MaxGrants)
		wantSame(t, "codes", len(w.state().Codes), api.MaxCodes)
		_, e := w.p.Withdraw(s, "shop")
		wantErrno(t, "Withdraw", e, api.OK)
		wantSame(t, "dead ones", len(w.state().Grants), api.MaxGrants)
		w.consent(s, "shop", "a")
		code = w.code(s)
		w.h.other = badDraws(2)["a panic"]
		w.refused("full of dead ones", api.ErrIdpFull, exchange(code))
		w.h.other = nil
		w.tick(7)
		w.refused("full still", api.ErrIdpFull, exchange(code))
		w.tick(1)
		wantSame(t, "behind their end", len(w.state().Grants), 1)
		w.taken("the last one", false, i.Access)
		w.exchange(code)
	}
}

func TestP17_12Clock(t *testing.T) {
	for _, kind := range kinds() {
		for _, lives := range [][2]int64{{10, 20}, {20, 10}, {20, 20}} {
			w := peopled(t, changed(func(c *api.Config) { c.Engine, c.Access, c.Refresh, c.Session = kind, lives[0], lives[1], 1 }))
			w.tick(last - 20)
			code := w.code(w.session())
			v := w.copied()
			i := v.exchange(code)
			wantSame(t, "Exp", i.Exp, last-20+lives[0])
			w.tick(1)
			w.h.other = badDraws(2)["a panic"]
			w.refused("the clock", api.ErrIdpClock, func() (any, api.Errno) { i, e := w.p.Exchange("shop", "s", code, "x", ""); return i, e })
			v.tick(1)
			v.h.other = badDraws(2)["a panic"]
			v.refused("Renew, the clock", api.ErrIdpClock, func() (any, api.Errno) { i, e := v.p.Renew("shop", "s", i.Refresh, nil); return i, e })
		}
	}
}

// TestP17_12Engine: a new grant is the engine's that mints for it.
func TestP17_12Engine(t *testing.T) {
	for _, kind := range kinds() {
		w := peopled(t, changed(func(c *api.Config) { c.Engine, c.Code = kind, 500 }))
		s := w.session()
		other := sealed + held - kind
		for n, row := range []struct {
			do   func()
			want int
		}{
			{func() {}, kind},
			{func() { w.p.Begin(other) }, other},
			{func() { w.p.Step(64) }, other},
			{func() { w.p.Step(64) }, other},
			{func() { w.p.Begin(kind) }, kind},
		} {
			row.do()
			i := w.exchange(w.code(s))
			wantSame(t, "the grant's engine", w.grant(uint64(n+1)).Engine, row.want)
			wantSame(t, "the token's form", strings.HasPrefix(i.Access, "at_"), row.want == held)
			w.taken("the token", true, i.Access)
		}
	}
}
