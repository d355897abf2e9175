package idp_test

import (
	"fmt"
	"slices"
	"strings"
	"testing"

	"postern/api"
)

func (w *world) clientRow(id string) api.Client {
	w.t.Helper()
	for _, c := range w.state().Clients {
		if c.ID == id {
			return c
		}
	}
	return api.Client{}
}

// client tells shop with one thing of it another one.
func client(change func(c *api.Client)) api.Client {
	c := shop()
	change(&c)
	return c
}

// numbered tells n texts.
func numbered(front string, n int) []string {
	var l []string
	for i := range n {
		l = append(l, fmt.Sprintf("%s%02d", front, i))
	}
	return l
}

// goodClients tells clients that may be, to the ends of what their fields may be.
func goodClients() []api.Client {
	return []api.Client{
		shop(),
		client(func(c *api.Client) { c.ID, c.Aud = " é", "shop" }),
		client(func(c *api.Client) { c.ID, c.Aud = long(64), long(64) }),
		client(func(c *api.Client) { c.Redirects = []string{"b", "a", "é", long(256)} }),
		client(func(c *api.Client) { c.Redirects = numbered("https://", api.MaxRedirects) }),
		client(func(c *api.Client) { c.Scopes = numbered("s", api.MaxScopes) }),
		client(func(c *api.Client) { c.Scopes = []string{"!", long(32), "~"} }),
	}
}

func TestP17_8AddClient(t *testing.T) {
	for _, c := range goodClients() {
		for _, secret := range []string{"s", "\x00\xff:", long(256)} {
			w := opened(t, config(held))
			w.drawing("AddClient", 1, func() {
				w.doing("AddClient", func() { wantErrno(t, c.ID, w.p.AddClient(c, secret), api.OK) }, clientKey(c.ID))
			})
			want := c
			want.Salt, want.Digest = draw(3), passOf(draw(3), secret, 2)
			wantSame(t, "the client", w.clientRow(c.ID), want)
			_, _, e := w.p.Introspect(c.ID, secret, "")
			wantErrno(t, "itself", e, api.OK)
		}
		c.Public = true
		w := opened(t, config(sealed))
		w.drawing("a public one", 0, func() {
			w.doing("a public one", func() { wantErrno(t, c.ID, w.p.AddClient(c, ""), api.OK) }, clientKey(c.ID))
		})
		wantSame(t, "the public one", w.clientRow(c.ID), c)
	}
}

// badClients tells clients that may not be.
func badClients() map[string]api.Client {
	m := map[string]api.Client{"the zero one": {}}
	for _, s := range badNames() {
		m["ID "+s] = client(func(c *api.Client) { c.ID = s })
		m["Aud "+s] = client(func(c *api.Client) { c.Aud = s })
	}
	for n, l := range [][]string{nil, numbered("r", api.MaxRedirects+1), {"a", "a"}, {"a", "b", "a"}, {""}, {"a", ""}, {"x", long(257)}, {"a\n"}, {"\x7f"}, {"\""}, {"\\"}, {"\xff"}, {"x", "y", "\x00"}} {
		m["redirects "+fmt.Sprint(n)] = client(func(c *api.Client) { c.Redirects = l })
	}
	for n, l := range [][]string{nil, {"b", "a"}, {"a", "a"}, {""}, {"a", ""}, {"a b"}, {"é"}, {"\""}, {"\\"}, {" "}, {"\x7f"}, {long(33)}, numbered("s", api.MaxScopes+1), {"a", "b", "b"}} {
		m["scopes "+fmt.Sprint(n)] = client(func(c *api.Client) { c.Scopes = l })
	}
	for i := range 16 {
		m["salt "+fmt.Sprint(i)] = client(func(c *api.Client) { c.Salt[i] = 1 })
	}
	for i := range 32 {
		m["digest "+fmt.Sprint(i)] = client(func(c *api.Client) { c.Digest[i] = 1 })
	}
	return m
}

func TestP17_8Errors(t *testing.T) {
	w := opened(t, config(sealed))
	add := func(c api.Client, secret string) func() (any, api.Errno) {
		return func() (any, api.Errno) { return only(w.p.AddClient(c, secret)) }
	}
	w.addClient(public("shop"), "")
	for n := range api.MaxClients - 2 {
		w.addClient(public(fmt.Sprint(n)), "")
	}
	app := client(func(c *api.Client) { c.ID = "app" })
	wantErrno(t, "the last one", w.copied().p.AddClient(app, "s"), api.OK)
	w.addClient(public("last"), "")
	for what, c := range badClients() {
		w.refused(what, api.ErrIdpName, add(c, "s"))
		c.Public = true
		w.refused(what+", public", api.ErrIdpName, add(c, ""))
	}
	for _, secret := range badPasswords() {
		w.refused("a secret", api.ErrIdpName, add(shop(), secret))
		w.refused("a secret", api.ErrIdpName, add(app, secret))
	}
	for _, secret := range []string{"s", "\x00", long(257)} {
		w.refused("a public one's secret", api.ErrIdpName, add(public("shop"), secret))
	}
	w.refused("twice", api.ErrIdpTwice, add(shop(), "s"))
	w.refused("twice, public", api.ErrIdpTwice, add(public("shop"), ""))
	w.h.other = badDraws(1)["none"]
	w.refused("full", api.ErrIdpFull, add(app, "s"))
	w.refused("full, public", api.ErrIdpFull, add(public("app"), ""))
	w.h.other = nil
	_, e := w.p.RemoveClient("last")
	wantErrno(t, "RemoveClient", e, api.OK)
	wantErrno(t, "in its place", w.p.AddClient(app, "s"), api.OK)
}

// TestP17_8Auth: who is a client, in each call that asks for it.
func TestP17_8Auth(t *testing.T) {
	for _, kind := range kinds() {
		w := begun(t, kind)
		w.addClient(public("app"), "")
		w.addClient(client(func(c *api.Client) { c.ID = "more" }), long(256))
		asks := map[string]func(id, secret string) func() (any, api.Errno){
			"Exchange": func(id, secret string) func() (any, api.Errno) {
				return func() (any, api.Errno) { i, e := w.p.Exchange(id, secret, "", "", ""); return i, e }
			},
			"Renew": func(id, secret string) func() (any, api.Errno) {
				return func() (any, api.Errno) { i, e := w.p.Renew(id, secret, "", nil); return i, e }
			},
			"Revoke": func(id, secret string) func() (any, api.Errno) {
				return func() (any, api.Errno) { return only(w.p.Revoke(id, secret, "")) }
			},
			"Introspect": func(id, secret string) func() (any, api.Errno) {
				return func() (any, api.Errno) { c, is, e := w.p.Introspect(id, secret, ""); return found{c, is}, e }
			},
		}
		for what, ask := range asks {
			want := api.ErrIdpGrant
			if what == "Revoke" || what == "Introspect" {
				want = api.OK
			}
			w.refused(what, want, ask("shop", "s"))
			w.refused(what, want, ask("app", ""))
			w.refused(what, want, ask("more", long(256)))
			for _, secret := range []string{"", "S", "s ", "ss", "\x00", "pw", long(256), long(257), long(1 << 16)} {
				w.refused(what+", shop", api.ErrIdpAuth, ask("shop", secret))
				w.refused(what+", none", api.ErrIdpAuth, ask("eve", secret))
				w.refused(what+", a user", api.ErrIdpAuth, ask("ann", secret))
				if secret != "" {
					w.refused(what+", public", api.ErrIdpAuth, ask("app", secret))
				}
			}
			for _, secret := range []string{"", long(255), long(257), strings.Repeat("x", 256)} {
				w.refused(what+", more", api.ErrIdpAuth, ask("more", secret))
			}
			for _, id := range append(badNames(), "Shop", "shop ", long(1<<16)) {
				w.refused(what+", an ID", api.ErrIdpAuth, ask(id, "s"))
			}
		}
	}
}

func (w *world) consentRow(user, client string) []string {
	w.t.Helper()
	for _, r := range w.state().Consents {
		if r.User == user && r.Client == client {
			return r.Scopes
		}
	}
	return nil
}

func TestP17_10Consent(t *testing.T) {
	for _, kind := range kinds() {
		w := opened(t, config(kind))
		w.addUser("ann")
		w.addUser("bob")
		c := shop()
		c.Scopes = []string{"a", "b", "c", "d"}
		w.addClient(c, "s")
		w.addClient(public("app"), "")
		s, r := w.login("ann"), w.login("bob")
		for _, row := range []struct {
			l, want []string
			same    bool
		}{
			{[]string{"b"}, []string{"b"}, false},
			{[]string{"b", "b"}, []string{"b"}, true},
			{[]string{"d", "a", "d"}, []string{"a", "b", "d"}, false},
			{[]string{"a", "b"}, []string{"a", "b", "d"}, true},
			{[]string{"d", "c", "b", "a"}, []string{"a", "b", "c", "d"}, false},
		} {
			keys := []string{consentKey("ann", "shop")}
			if row.same {
				keys = nil
			}
			w.drawing("Consent", 0, func() {
				w.doing("Consent", func() { w.consent(s, "shop", row.l...) }, keys...)
			})
			wantSame(t, "the consent", w.consentRow("ann", "shop"), row.want)
		}
		wantSame(t, "another user's", w.consentRow("bob", "shop"), []string{})
		wantSame(t, "to another client", w.consentRow("ann", "app"), []string{})
		w.doing("another user's", func() { w.consent(r, "shop", "c") }, consentKey("bob", "shop"))
		w.doing("to another client", func() { w.consent(s, "app", "b") }, consentKey("ann", "app"))
		wantSame(t, "the first one", w.consentRow("ann", "shop"), c.Scopes)
	}
}

// badScopes tells lists that may not be asked for, of a client of a and b.
func badScopes() [][]string {
	return [][]string{{"c"}, {"a", "c"}, {"A"}, {""}, {"a", ""}, {"a b"}, {"a", "b", "é"}, {"\xff"}, {long(33)}, numbered("s", 17), slices.Concat([]string{"a"}, numbered("s", 1<<10))}
}

func TestP17_10Errors(t *testing.T) {
	w := begun(t, held)
	s := w.login("ann")
	consent := func(session, client string, l []string) func() (any, api.Errno) {
		return func() (any, api.Errno) { return only(w.p.Consent(session, client, l)) }
	}
	for _, other := range otherTexts("se_", draw(5)) {
		w.refused("a session", api.ErrIdpSession, consent(other, "eve", nil))
	}
	for _, id := range append(badNames(), "eve", "ann", "Shop") {
		w.refused("a client", api.ErrIdpClient, consent(s, id, nil))
	}
	for _, l := range append(badScopes(), nil) {
		w.refused("scopes", api.ErrIdpScope, consent(s, "shop", l))
	}
	// Of none there is no consent: what is within nothing may not be asked for.
	w.consent(s, "shop", "a")
	for _, l := range append(badScopes(), nil) {
		w.refused("scopes", api.ErrIdpScope, consent(s, "shop", l))
	}
}
