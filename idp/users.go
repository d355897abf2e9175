package idp

import (
	"postern/api"
	"postern/claim"
	"postern/digest"
	"postern/meter"
)

func mayBePassword(s string) bool { return len(s) >= 1 && len(s) <= api.MaxPassword }

func (t *turn) digest(salt api.ID, password string) [32]byte {
	d, _ := digest.Pass(salt, password, t.config.Rounds) // Check has taken the rounds
	return d
}

// isPassword tells whether a user's password, or a client's secret, is the one of that salt and digest.
func (t *turn) isPassword(password string, salt api.ID, sum [32]byte) bool {
	return len(password) <= api.MaxPassword && t.digest(salt, password) == sum
}

func (t *turn) addUser(name, password string) api.Errno {
	if !claim.Name(name) || !mayBePassword(password) {
		return api.ErrIdpName
	}
	if _, there := t.User(name); there {
		return api.ErrIdpTwice
	}
	if len(t.Users()) >= api.MaxUsers {
		return api.ErrIdpFull
	}
	return t.putUser(api.User{Name: name}, password)
}

// putUser puts a user with a new salt and this password.
func (t *turn) putUser(u api.User, password string) api.Errno {
	l, e := t.draw(1)
	if e != api.OK {
		return e
	}
	u.Salt, u.Digest = l[0], t.digest(l[0], password)
	t.PutUser(u)
	return api.OK
}

// admit asks a user for the password; a wrong one counts as a failure.
func (t *turn) admit(u api.User, password string) api.Errno {
	switch {
	case meter.Locked(t.config.Lock, u.Meter, t.now):
		return api.ErrIdpLocked
	case !t.isPassword(password, u.Salt, u.Digest):
		u.Meter = meter.Fail(t.config.Lock, u.Meter, t.now)
		t.PutUser(u)
		return api.ErrIdpLogin
	}
	return api.OK
}

// admitted tells the user behind a right password.
func (t *turn) admitted(u api.User) api.User {
	u.Meter = meter.Pass(t.config.Lock, u.Meter, t.now)
	return u
}

func (t *turn) login(user, password string) (string, api.Errno) {
	u, there := t.User(user)
	if !there {
		return "", api.ErrIdpLogin
	}
	if e := t.admit(u, password); e != api.OK {
		return "", e
	}
	if len(t.sessions()) >= api.MaxSessions {
		return "", api.ErrIdpFull
	}
	id, exp, e := t.begun(t.config.Session)
	if e != api.OK {
		return "", e
	}
	t.PutUser(t.admitted(u))
	t.PutSession(api.Session{ID: id, User: user, Exp: exp})
	return textOf(sessionFront, id), api.OK
}

func (t *turn) logout(session string) api.Errno {
	s, there := t.session(session)
	if !there {
		return api.ErrIdpSession
	}
	t.DropSession(s.ID)
	return api.OK
}

func (t *turn) setPassword(session, old, password string) (int, api.Errno) {
	s, there := t.session(session)
	if !there {
		return 0, api.ErrIdpSession
	}
	if !mayBePassword(password) {
		return 0, api.ErrIdpName
	}
	u, _ := t.User(s.User)
	if e := t.admit(u, old); e != api.OK {
		return 0, e
	}
	own := func(user, _ string) bool { return user == s.User }
	grants := t.live(own)
	if e := t.putUser(t.admitted(u), password); e != api.OK {
		return 0, e
	}
	t.dropSessions(func(r api.Session) bool { return r.User == s.User && r.ID != s.ID })
	t.dropCodes(own)
	return t.dieAll(grants), api.OK
}

func (t *turn) removeUser(name string) (int, api.Errno) {
	if !t.DropUser(name) {
		return 0, api.ErrIdpUser
	}
	t.dropSessions(func(r api.Session) bool { return r.User == name })
	return t.removeAll(func(user, _ string) bool { return user == name }), api.OK
}

func (t *turn) dropSessions(which func(api.Session) bool) {
	for _, r := range t.Sessions() {
		if which(r) {
			t.DropSession(r.ID)
		}
	}
}

// removeAll takes away what these users have let these clients do; it tells how many live grants these were.
func (t *turn) removeAll(of func(user, client string) bool) int {
	for _, r := range t.Consents() {
		if of(r.User, r.Client) {
			t.DropConsent(r.User, r.Client)
		}
	}
	t.dropCodes(of)
	return t.dieAll(t.live(of))
}

func (t *turn) dropCodes(of func(user, client string) bool) {
	for _, r := range t.Codes() {
		if of(r.User, r.Client) {
			t.DropCode(r.ID)
		}
	}
}

// live tells the live grants of these users to these clients.
func (t *turn) live(of func(user, client string) bool) []api.Grant {
	var l []api.Grant
	for _, g := range t.grants() {
		if g.Live && of(g.User, g.Client) {
			t.want(isEngine(g.Engine))
			l = append(l, g)
		}
	}
	return l
}

func (t *turn) dieAll(l []api.Grant) int {
	for _, g := range l {
		t.die(g)
	}
	return len(l)
}
