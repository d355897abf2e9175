package idp_test

import (
	"testing"

	"postern/api"
)

// TestP17_12Example: the chapter's first two examples.
func TestP17_12Example(t *testing.T) {
	w := opened(t, config(held))
	w.addUser("ann")
	w.addClient(shop(), "s")
	s := w.login("ann")
	wantSame(t, "the session", s, "se_BQUFBQUFBQUFBQUFBQUFBQ")
	w.consent(s, "shop", "b", "a")
	c := w.code(s)
	wantSame(t, "the code", c, "ac_BgYGBgYGBgYGBgYGBgYGBg")
	i := w.exchange(c)
	wantSame(t, "the tokens", i, api.Issued{Access: "at_BwcHBwcHBwcHBwcHBwcHBw", Refresh: "rt_CAgICAgICAgICAgICAgICA", Scopes: []string{"a"}, Exp: 10, Life: 10})
	got, is, e := w.p.Find(i.Access)
	wantErrno(t, "Find", e, api.OK)
	wantSame(t, "the claims", found{got, is}, found{api.Claims{Iss: "iss", Sub: "ann", Client: "shop", Aud: "api", Scopes: []string{"a"}, Grant: 1, Exp: 10, ID: draw(7)}, true})
	_, e = w.p.Exchange("shop", "s", c, "x", "")
	wantErrno(t, "the code again", e, api.ErrIdpGrant)
	w.taken("its token", false, i.Access)
	_, e = w.p.Renew("shop", "s", i.Refresh, nil)
	wantErrno(t, "its refresh token", e, api.ErrIdpGrant)
	wantSame(t, "the grant", []any{w.grant(1).N, w.grant(1).Live}, []any{1, false})
	w.tick(9)
	wantSame(t, "grants at 9", len(w.state().Grants), 1)
	w.tick(1)
	wantSame(t, "grants at 10", len(w.state().Grants), 0)
}

// TestP17_9Example: the third and the fifth one.
func TestP17_9Example(t *testing.T) {
	w := begun(t, held)
	for range 3 {
		_, e := w.p.Login("ann", "no")
		wantErrno(t, "Login", e, api.ErrIdpLogin)
	}
	_, e := w.p.Login("ann", "pw")
	wantErrno(t, "Login", e, api.ErrIdpLocked)
	w.tick(10)
	m := w.meterOf("ann")
	w.h.other = badDraws(1)["none"]
	_, e = w.p.Login("ann", "pw")
	wantErrno(t, "without draws", e, api.ErrIdpDraws)
	wantSame(t, "the meter", w.meterOf("ann"), m)
	w.h.other = nil
	w.login("ann")
}

// TestP17_13Example: the fourth one.
func TestP17_13Example(t *testing.T) {
	w := begun(t, held)
	_, _, i := w.issued()
	k := w.renew(i.Refresh)
	wantSame(t, "the tokens", k, api.Issued{Access: text("at_", draw(9)), Refresh: text("rt_", draw(10)), Scopes: []string{"a"}, Exp: 10, Life: 10})
	_, e := w.p.Renew("shop", "s", i.Refresh, nil)
	wantErrno(t, "the old one", e, api.ErrIdpGrant)
	w.taken("none", false, i.Access, k.Access)
}

// TestP17_19Example: the sixth one.
func TestP17_19Example(t *testing.T) {
	w := begun(t, held)
	wantErrno(t, "Tick", w.p.Tick(-1), api.ErrIdpClock)
	wantErrno(t, "Tick", w.p.Tick(last), api.OK)
	_, e := w.p.Login("ann", "pw")
	wantErrno(t, "Login", e, api.ErrIdpClock)
}
