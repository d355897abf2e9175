package idp_test

import (
	"fmt"
	"math"
	"testing"

	"postern/api"
	"postern/digest"
	"postern/meter"
)

func (w *world) userRow(name string) api.User {
	w.t.Helper()
	for _, u := range w.state().Users {
		if u.Name == name {
			return u
		}
	}
	return api.User{}
}

func passOf(salt api.ID, password string, rounds int) [32]byte {
	d, _ := digest.Pass(salt, password, rounds)
	return d
}

// badNames and badPasswords tell texts that may not be.
func badNames() []string {
	return []string{"", "a\n", "a\x00", "\x7f", "\"", "\\", "\xff", "a\xc3", long(65)}
}
func badPasswords() []string { return []string{"", long(257), long(1 << 20)} }

func TestP17_7AddUser(t *testing.T) {
	for _, rounds := range []int{1, 2, 7} {
		w := opened(t, changed(func(c *api.Config) { c.Rounds = rounds }))
		w.tick(5)
		for _, name := range []string{"ann", "Ann", " ", "é b", long(64), "shop", ":"} {
			for _, password := range []string{"p", "\x00\xff\n", long(256)} {
				v := w.copied()
				v.drawing("AddUser", 1, func() {
					v.doing("AddUser", func() { wantErrno(t, name, v.p.AddUser(name, password), api.OK) }, userKey(name))
				})
				wantSame(t, name, v.userRow(name), api.User{Name: name, Salt: draw(3), Digest: passOf(draw(3), password, rounds)})
				_, e := v.p.Login(name, password)
				wantErrno(t, "Login", e, api.OK)
			}
		}
	}
}

func TestP17_7Errors(t *testing.T) {
	w := begun(t, sealed)
	for n := range api.MaxUsers - 2 {
		w.addUser(fmt.Sprint(n))
	}
	wantErrno(t, "the last one", w.copied().p.AddUser("bob", "pw"), api.OK)
	w.addUser("bob")
	for _, name := range badNames() {
		w.refused("a name", api.ErrIdpName, func() (any, api.Errno) { return only(w.p.AddUser(name, "pw")) })
	}
	for _, password := range badPasswords() {
		for _, name := range []string{"ann", "new"} {
			w.refused("a password", api.ErrIdpName, func() (any, api.Errno) { return only(w.p.AddUser(name, password)) })
		}
	}
	w.refused("twice", api.ErrIdpTwice, func() (any, api.Errno) { return only(w.p.AddUser("ann", "other")) })
	w.h.other = badDraws(1)["none"]
	w.refused("full", api.ErrIdpFull, func() (any, api.Errno) { return only(w.p.AddUser("new", "pw")) })
	w.h.other = nil
	_, e := w.p.RemoveUser("bob")
	wantErrno(t, "RemoveUser", e, api.OK)
	wantErrno(t, "in its place", w.p.AddUser("new", "pw"), api.OK)
}

func TestP17_9Login(t *testing.T) {
	for _, kind := range kinds() {
		w := begun(t, kind)
		w.addUser("bob")
		w.tick(7)
		var s string
		w.drawing("Login", 1, func() {
			w.doing("Login", func() { s = w.login("ann") }, sessionKey(6))
		})
		wantSame(t, "the text", s, text("se_", draw(6)))
		wantSame(t, "the session", w.state().Sessions, []api.Session{{ID: draw(6), User: "ann", Exp: 57}})
		if r := w.login("bob"); r == s {
			t.Error("one text for two sessions")
		}
		w.tick(49)
		w.doing("Consent till its end", func() { w.consent(s, "shop", "a") }, consentKey("ann", "shop"))
		w.tick(1)
		wantErrno(t, "Consent at its end", w.p.Consent(s, "shop", []string{"b"}), api.ErrIdpSession)
	}
}

// meterOf tells a user's meter.
func (w *world) meterOf(name string) api.Meter { return w.userRow(name).Meter }

// TestP17_9Meter: the meter is that behind Fail, or Pass; locked is who has the limit at the clock.
func TestP17_9Meter(t *testing.T) {
	for _, kind := range kinds() {
		w := begun(t, kind)
		w.addUser("bob")
		lock, m := w.c.Lock, api.Meter{}
		for n := range 60 {
			password := "pw"
			if n%7 < 4 {
				password = []string{"", "no", "pw ", long(257)}[n%4]
			}
			now := w.state().Clock
			_, e := w.p.Login("ann", password)
			want := api.OK
			switch {
			case meter.Locked(lock, m, now):
				want = api.ErrIdpLocked
			case password != "pw":
				want = api.ErrIdpLogin
				m = meter.Fail(lock, m, now)
			default:
				m = meter.Pass(lock, m, now)
			}
			wantErrno(t, fmt.Sprint("Login ", n), e, want)
			wantSame(t, fmt.Sprint("the meter behind ", n), w.meterOf("ann"), m)
			wantSame(t, "the other one's", w.meterOf("bob"), api.Meter{})
			w.tick(int64(n % 4))
		}
	}
}

func TestP17_9Errors(t *testing.T) {
	w := begun(t, held)
	login := func(user, password string) func() (any, api.Errno) {
		return func() (any, api.Errno) { s, e := w.p.Login(user, password); return s, e }
	}
	for range api.MaxSessions - 1 {
		w.login("ann")
	}
	w.copied().login("ann")
	w.login("ann")
	for _, name := range append(badNames(), "eve", "Ann", "ann ", long(1<<20)) {
		w.refused("a user "+name[:min(9, len(name))], api.ErrIdpLogin, login(name, "pw"))
	}
	w.refused("full", api.ErrIdpFull, login("ann", "pw"))
	for range 3 {
		w.changing("another password", api.ErrIdpLogin, login("ann", "no"), userKey("ann"))
	}
	w.refused("locked, the right one", api.ErrIdpLocked, login("ann", "pw"))
	w.refused("locked, a wrong one", api.ErrIdpLocked, login("ann", "no"))
	w.tick(49)
	w.refused("full still", api.ErrIdpFull, login("ann", "pw"))
	w.tick(1)
	w.login("ann")
	w.tick(last - 50 - 50)
	s := w.login("ann")
	w.tick(1)
	w.refused("beyond int64", api.ErrIdpClock, login("ann", "pw"))
	w.changing("another password there", api.ErrIdpLogin, login("ann", "no"), userKey("ann"))
	w.tick(48)
	wantErrno(t, "Logout", w.p.Logout(s), api.OK)
}

// TestP17_9Full: full goes ahead of the clock, and both of the draws; of none the meter knows.
func TestP17_9Full(t *testing.T) {
	w := begun(t, sealed)
	w.tick(last - 50)
	for range api.MaxSessions {
		w.login("ann")
	}
	w.h.other = badDraws(1)["a panic"]
	w.tick(1)
	w.refused("full", api.ErrIdpFull, func() (any, api.Errno) { s, e := w.p.Login("ann", "pw"); return s, e })
	s := text("se_", draw(10))
	wantErrno(t, "Logout", w.p.Logout(s), api.OK)
	w.refused("the clock", api.ErrIdpClock, func() (any, api.Errno) { s, e := w.p.Login("ann", "pw"); return s, e })
}

// otherTexts tells texts that are near to one that is known, and are not it.
func otherTexts(front string, d api.ID) []string {
	good := text(front, d)
	l := []string{"", front, good[1:], good[:24], good + "A", good + "=", " " + good, "S" + good[1:], text("at_", d), text("xx_", d), fake(front), good[3:], good + good[3:]}
	for _, f := range []string{"se_", "ac_", "rt_"} {
		if f != front {
			l = append(l, text(f, d))
		}
	}
	// Another last letter: spare bits that are not 0.
	const letters = "ABCDEFGHIJKLMNOPQRSTUVWXYZabcdefghijklmnopqrstuvwxyz0123456789-_"
	for _, c := range letters + "+/= " {
		if s := good[:24] + string(c); s != good {
			l = append(l, s)
		}
	}
	return l
}

func TestP17_9Logout(t *testing.T) {
	for _, kind := range kinds() {
		w := begun(t, kind)
		w.addUser("bob")
		s, _, i := w.issued() // draws 6, 7 to 9
		r := w.login("bob")
		for _, other := range append(otherTexts("se_", draw(6)), i.Access, i.Refresh) {
			w.refused("Logout of "+other, api.ErrIdpSession, func() (any, api.Errno) { return only(w.p.Logout(other)) })
		}
		w.drawing("Logout", 0, func() {
			w.doing("Logout", func() { wantErrno(t, "Logout", w.p.Logout(s), api.OK) }, sessionKey(6))
		})
		w.refused("Logout once more", api.ErrIdpSession, func() (any, api.Errno) { return only(w.p.Logout(s)) })
		w.taken("its token", true, i.Access)
		w.renew(i.Refresh)
		wantErrno(t, "Logout of the other one", w.p.Logout(r), api.OK)
	}
}

// peers tells a world in which ann and bob have sessions, codes and grants of shop and of more, and their tokens.
type peers struct {
	*world
	ann, ann2, bob string
	tokens         map[string]api.Issued // by the user and the client
	codes          map[string]string
}

func newPeers(t *testing.T, kind int) peers {
	t.Helper()
	w := peopled(t, changed(func(c *api.Config) { c.Engine, c.Code = kind, 1000 }))
	more := shop()
	more.ID = "more"
	w.addClient(more, "s")
	w.addUser("bob")
	p := peers{world: w, ann: w.login("ann"), ann2: w.login("ann"), bob: w.login("bob"), tokens: map[string]api.Issued{}, codes: map[string]string{}}
	for _, who := range []string{"ann", "bob"} {
		s := map[string]string{"ann": p.ann, "bob": p.bob}[who]
		for _, client := range []string{"shop", "more"} {
			w.consent(s, client, "a", "b")
			spent := w.codeOf(s, client, "a")
			p.codes[who+" "+client] = w.codeOf(s, client, "a", "b")
			p.tokens[who+" "+client] = w.exchangeOf(client, spent)
		}
	}
	return p
}

// wantPeers asks whose grants live on, and whose consents and codes there are still.
func (p peers) wantPeers(what string, grants, consents, codes []string) {
	p.t.Helper()
	s := p.state()
	has := map[string]bool{}
	for _, g := range s.Grants {
		if g.Live {
			has["grant "+g.User+" "+g.Client] = true
		}
	}
	for _, r := range s.Consents {
		has["consent "+r.User+" "+r.Client] = true
	}
	for _, r := range s.Codes {
		has["code "+r.User+" "+r.Client] = true
	}
	want := map[string]bool{}
	for _, who := range grants {
		want["grant "+who] = true
	}
	for _, who := range consents {
		want["consent "+who] = true
	}
	for _, who := range codes {
		want["code "+who] = true
	}
	wantSame(p.t, what, has, want)
	for who, i := range p.tokens {
		client := who[4:]
		live := want["grant "+who]
		p.taken(what+", "+who, live, i.Access)
		_, e := p.copied().p.Renew(client, "s", i.Refresh, nil)
		if (e == api.OK) != live && e != api.ErrIdpAuth {
			p.t.Errorf("%s: Renew of %s: %d", what, who, e)
		}
		_, e = p.copied().p.Exchange(client, "s", p.codes[who], "x", "")
		if (e == api.OK) != want["code "+who] && e != api.ErrIdpAuth {
			p.t.Errorf("%s: Exchange of %s: %d", what, who, e)
		}
	}
}

var everyone = []string{"ann shop", "ann more", "bob shop", "bob more"}

func TestP17_22SetPassword(t *testing.T) {
	for _, kind := range kinds() {
		p := newPeers(t, kind)
		p.wantPeers("ahead", everyone, everyone, everyone)
		p.p.Login("ann", "no")
		m := p.meterOf("ann")
		p.tick(3)
		n := p.h.drawn
		p.drawing("SetPassword", 1, func() {
			grants, e := p.p.SetPassword(p.ann, "pw", "new")
			wantSame(t, "SetPassword", grants, 2)
			wantErrno(t, "SetPassword", e, api.OK)
		})
		wantSame(t, "the user", p.userRow("ann"), api.User{Name: "ann", Salt: draw(n + 1), Digest: passOf(draw(n+1), "new", 2), Meter: meter.Pass(p.c.Lock, m, 3)})
		p.wantPeers("SetPassword", []string{"bob shop", "bob more"}, everyone, []string{"bob shop", "bob more"})
		wantErrno(t, "the other session", p.p.Logout(p.ann2), api.ErrIdpSession)
		wantErrno(t, "another one's session", p.p.Consent(p.bob, "shop", []string{"a"}), api.OK)
		_, e := p.p.Login("ann", "pw")
		wantErrno(t, "the old password", e, api.ErrIdpLogin)
		_, e = p.p.Login("ann", "new")
		wantErrno(t, "the new password", e, api.OK)
		grants, e := p.p.SetPassword(p.ann, "new", "new")
		wantSame(t, "SetPassword again", grants, 0)
		wantErrno(t, "SetPassword again", e, api.OK)
		for _, password := range []string{"p", long(256)} {
			old := map[string]string{"p": "new", long(256): "p"}[password]
			_, e = p.p.SetPassword(p.ann, old, password)
			wantErrno(t, "SetPassword", e, api.OK)
		}
		_, e = p.p.Login("ann", long(256))
		wantErrno(t, "a long password", e, api.OK)
	}
}

func TestP17_22Errors(t *testing.T) {
	w := begun(t, sealed)
	s := w.login("ann")
	_, _, i := w.issued()
	set := func(session, old, password string) func() (any, api.Errno) {
		return func() (any, api.Errno) { n, e := w.p.SetPassword(session, old, password); return n, e }
	}
	for _, other := range otherTexts("se_", draw(5)) {
		w.refused("a session", api.ErrIdpSession, set(other, "no", ""))
	}
	for _, password := range badPasswords() {
		w.refused("a password", api.ErrIdpName, set(s, "no", password))
	}
	for n, old := range []string{"", "no", long(257)} {
		w.h.other = badDraws(1)["a panic"]
		w.changing("another password", api.ErrIdpLogin, set(s, old, "new"), userKey("ann"))
		wantSame(t, "the score", w.meterOf("ann"), api.Meter{Score: math.Float64bits(float64(n + 1))})
	}
	w.refused("a password, locked", api.ErrIdpName, set(s, "pw", ""))
	w.refused("locked", api.ErrIdpLocked, set(s, "pw", "new"))
	w.refused("locked, another password", api.ErrIdpLocked, set(s, "no", "new"))
	w.h.other = nil
	w.taken("the token", true, i.Access)
	w.tick(10)
	if n, e := w.p.SetPassword(s, "pw", "new"); n != 1 || e != api.OK {
		t.Errorf("behind the lock: %d, %d", n, e)
	}
}

func TestP17_23RemoveUser(t *testing.T) {
	for _, kind := range kinds() {
		p := newPeers(t, kind)
		bob := []string{"bob shop", "bob more"}
		p.drawing("RemoveUser", 0, func() {
			n, e := p.p.RemoveUser("ann")
			wantSame(t, "RemoveUser", n, 2)
			wantErrno(t, "RemoveUser", e, api.OK)
		})
		p.wantPeers("RemoveUser", bob, bob, bob)
		for _, s := range []string{p.ann, p.ann2} {
			wantErrno(t, "its session", p.p.Logout(s), api.ErrIdpSession)
		}
		wantErrno(t, "another one's session", p.p.Consent(p.bob, "shop", []string{"a"}), api.OK)
		p.refused("RemoveUser once more", api.ErrIdpUser, func() (any, api.Errno) { n, e := p.p.RemoveUser("ann"); return n, e })
		_, e := p.p.Login("ann", "pw")
		wantErrno(t, "Login", e, api.ErrIdpLogin)
		p.addUser("ann")
		wantSame(t, "a new one", p.meterOf("ann"), api.Meter{})
		p.wantPeers("a new one", bob, bob, bob)
		s := p.login("ann")
		_, e = p.p.Authorize(s, "shop", "x", []string{"a"}, "")
		wantErrno(t, "Authorize", e, api.ErrIdpConsent)
		if n, e := p.p.Withdraw(s, "shop"); n != 0 || e != api.OK {
			t.Errorf("Withdraw: %d, %d", n, e)
		}
	}
}

func TestP17_23RemoveClient(t *testing.T) {
	for _, kind := range kinds() {
		p := newPeers(t, kind)
		rest := []string{"ann more", "bob more"}
		p.drawing("RemoveClient", 0, func() {
			n, e := p.p.RemoveClient("shop")
			wantSame(t, "RemoveClient", n, 2)
			wantErrno(t, "RemoveClient", e, api.OK)
		})
		p.wantPeers("RemoveClient", rest, rest, rest)
		wantErrno(t, "Authorize", func() api.Errno { _, e := p.p.Authorize(p.ann, "shop", "x", []string{"a"}, ""); return e }(), api.ErrIdpClient)
		p.refused("RemoveClient once more", api.ErrIdpClient, func() (any, api.Errno) { n, e := p.p.RemoveClient("shop"); return n, e })
		p.addClient(shop(), "s")
		p.wantPeers("a new one", rest, rest, rest)
		_, e := p.p.Authorize(p.ann, "shop", "x", []string{"a"}, "")
		wantErrno(t, "Authorize", e, api.ErrIdpConsent)
		for _, s := range []string{p.ann, p.ann2, p.bob} {
			wantErrno(t, "a session", p.p.Logout(s), api.OK)
		}
	}
}

func TestP17_23Errors(t *testing.T) {
	w := begun(t, held)
	for _, name := range append(badNames(), "eve", "shop", "Ann", long(1<<20)) {
		w.refused("RemoveUser", api.ErrIdpUser, func() (any, api.Errno) { n, e := w.p.RemoveUser(name); return n, e })
	}
	for _, name := range append(badNames(), "eve", "ann", "Shop", long(1<<20)) {
		w.refused("RemoveClient", api.ErrIdpClient, func() (any, api.Errno) { n, e := w.p.RemoveClient(name); return n, e })
	}
	// A user without anything: only the row goes.
	w.doing("RemoveUser", func() { w.p.RemoveUser("ann") }, userKey("ann"))
	w.doing("RemoveClient", func() { w.p.RemoveClient("shop") }, clientKey("shop"))
	// Dead grants don't die again.
	v := begun(t, held)
	_, _, i := v.issued()
	wantErrno(t, "Revoke", v.p.Revoke("shop", "s", i.Refresh), api.OK)
	for what, do := range map[string]func(w *world) (int, api.Errno){
		"RemoveUser":   func(w *world) (int, api.Errno) { return w.p.RemoveUser("ann") },
		"RemoveClient": func(w *world) (int, api.Errno) { return w.p.RemoveClient("shop") },
	} {
		if n, e := do(v.copied()); n != 0 || e != api.OK {
			t.Errorf("%s: %d, %d", what, n, e)
		}
	}
}
