package idp_test

import (
	"postern/api"
	"postern/idp"
)

// call is one of the provider's.
type call struct {
	what string
	do   func(p *idp.Provider) (any, api.Errno)
}

// on is what calls are made with.
type on struct {
	session, code, client, secret string
	i                             api.Issued
}

// reading tells the calls that change nothing.
func reading(o on) []call {
	return []call{
		{"Introspect", func(p *idp.Provider) (any, api.Errno) {
			c, is, e := p.Introspect(o.client, o.secret, o.i.Access)
			return found{c, is}, e
		}},
		{"Find", func(p *idp.Provider) (any, api.Errno) {
			c, is, e := p.Find(o.i.Access)
			return found{c, is}, e
		}},
		{"Version", func(p *idp.Provider) (any, api.Errno) { v, e := p.Version(); return v, e }},
		{"State", func(p *idp.Provider) (any, api.Errno) { s, e := p.State(); return s, e }},
		{"Revoked", func(p *idp.Provider) (any, api.Errno) { l, e := p.Revoked(); return l, e }},
		{"Ring", func(p *idp.Provider) (any, api.Errno) { r, e := p.Ring(); return r, e }},
		{"Held", func(p *idp.Provider) (any, api.Errno) { l, e := p.Held(); return l, e }},
	}
}

// idle tells calls that have nothing to change: code has been exchanged for i, whose grant is live.
func idle(o on) []call {
	return append(reading(o), []call{
		{"Consent to what there is", func(p *idp.Provider) (any, api.Errno) {
			return only(p.Consent(o.session, o.client, []string{"b", "a", "b"}))
		}},
		{"Revoke of nothing", func(p *idp.Provider) (any, api.Errno) {
			return only(p.Revoke(o.client, o.secret, fake("at_")))
		}},
		{"Tick of 0", func(p *idp.Provider) (any, api.Errno) { return only(p.Tick(0)) }},
		{"Logout of none", func(p *idp.Provider) (any, api.Errno) { return only(p.Logout(fake("se_"))) }},
		{"Login of none", func(p *idp.Provider) (any, api.Errno) { s, e := p.Login("eve", "pw"); return s, e }},
		{"Step of none", func(p *idp.Provider) (any, api.Errno) {
			n, end, e := p.Step(1)
			return step{n, end}, e
		}},
	}...)
}

// writing tells calls, each of which changes something; idle's are its arguments.
func writing(o on) []call {
	return []call{
		{"AddUser", func(p *idp.Provider) (any, api.Errno) { return only(p.AddUser("bob", "pw")) }},
		{"AddClient", func(p *idp.Provider) (any, api.Errno) { return only(p.AddClient(public("app"), "")) }},
		{"Login", func(p *idp.Provider) (any, api.Errno) { s, e := p.Login("ann", "pw"); return s, e }},
		{"Login, refused", func(p *idp.Provider) (any, api.Errno) { s, e := p.Login("ann", "no"); return s, e }},
		{"Logout", func(p *idp.Provider) (any, api.Errno) { return only(p.Logout(o.session)) }},
		{"SetPassword", func(p *idp.Provider) (any, api.Errno) {
			n, e := p.SetPassword(o.session, "pw", "new")
			return n, e
		}},
		{"SetPassword, refused", func(p *idp.Provider) (any, api.Errno) {
			n, e := p.SetPassword(o.session, "no", "new")
			return n, e
		}},
		{"RemoveUser", func(p *idp.Provider) (any, api.Errno) { n, e := p.RemoveUser("ann"); return n, e }},
		{"RemoveClient", func(p *idp.Provider) (any, api.Errno) { n, e := p.RemoveClient(o.client); return n, e }},
		{"Consent", func(p *idp.Provider) (any, api.Errno) {
			return only(p.Consent(o.session, "more", []string{"a"}))
		}},
		{"Authorize", func(p *idp.Provider) (any, api.Errno) {
			c, e := p.Authorize(o.session, o.client, "x", []string{"a"}, "")
			return c, e
		}},
		{"Exchange", func(p *idp.Provider) (any, api.Errno) {
			i, e := p.Exchange(o.client, o.secret, o.code, "x", "")
			return i, e
		}},
		{"Renew", func(p *idp.Provider) (any, api.Errno) {
			i, e := p.Renew(o.client, o.secret, o.i.Refresh, nil)
			return i, e
		}},
		{"Revoke", func(p *idp.Provider) (any, api.Errno) {
			return only(p.Revoke(o.client, o.secret, o.i.Access))
		}},
		{"Revoke of a refresh token", func(p *idp.Provider) (any, api.Errno) {
			return only(p.Revoke(o.client, o.secret, o.i.Refresh))
		}},
		{"Withdraw", func(p *idp.Provider) (any, api.Errno) { n, e := p.Withdraw(o.session, o.client); return n, e }},
		{"Distrust", func(p *idp.Provider) (any, api.Errno) { return only(p.Distrust(1)) }},
		{"Rotate", func(p *idp.Provider) (any, api.Errno) { k, e := p.Rotate(); return k, e }},
		{"Begin", func(p *idp.Provider) (any, api.Errno) {
			e := p.Begin(sealed)
			if e == api.ErrShiftSame {
				e = p.Begin(held)
			}
			return only(e)
		}},
		{"Tick", func(p *idp.Provider) (any, api.Errno) { return only(p.Tick(1)) }},
	}
}

// worked tells a world in which each call of writing has something to do, and what they are made with.
func (w *world) worked() on {
	w.t.Helper()
	c := shop()
	c.ID = "more"
	w.addClient(c, "s")
	s, _, i := w.issued()
	return on{session: s, code: w.code(s), client: "shop", secret: "s", i: i}
}
