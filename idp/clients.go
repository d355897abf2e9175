package idp

import (
	"slices"

	"postern/api"
	"postern/claim"
	"postern/terse"
)

func (t *turn) addClient(c api.Client, secret string) api.Errno {
	if !mayBeClient(c) || !mayBeSecret(c, secret) {
		return api.ErrIdpName
	}
	if _, there := t.Client(c.ID); there {
		return api.ErrIdpTwice
	}
	if len(t.Clients()) >= api.MaxClients {
		return api.ErrIdpFull
	}
	if !c.Public {
		l, e := t.draw(1)
		if e != api.OK {
			return e
		}
		c.Salt, c.Digest = l[0], t.digest(l[0], secret)
	}
	t.PutClient(c)
	return api.OK
}

func mayBeClient(c api.Client) bool {
	set, e := claim.Set(c.Scopes)
	return claim.Name(c.ID) && claim.Name(c.Aud) && mayBeRedirects(c.Redirects) &&
		e == api.OK && len(set) > 0 && slices.Equal(set, c.Scopes) &&
		c.Salt == api.ID{} && c.Digest == [32]byte{}
}

func mayBeRedirects(l []string) bool {
	if len(l) < 1 || len(l) > api.MaxRedirects {
		return false
	}
	for i, r := range l {
		if len(r) < 1 || len(r) > api.MaxRedirect || !terse.Plain(r) || slices.Contains(l[:i], r) {
			return false
		}
	}
	return true
}

func mayBeSecret(c api.Client, secret string) bool {
	if c.Public {
		return secret == ""
	}
	return mayBePassword(secret)
}

// itself tells a client that is itself.
func (t *turn) itself(id, secret string) (api.Client, bool) {
	c, there := t.Client(id)
	switch {
	case !there:
		return api.Client{}, false
	case c.Public:
		return c, secret == ""
	}
	return c, t.isPassword(secret, c.Salt, c.Digest)
}

func (t *turn) removeClient(id string) (int, api.Errno) {
	if !t.DropClient(id) {
		return 0, api.ErrIdpClient
	}
	return t.removeAll(func(_, client string) bool { return client == id }), api.OK
}

// asked tells the set of the scopes that are asked for.
func asked(l, may []string) ([]string, api.Errno) {
	set, e := claim.Set(l)
	if e != api.OK || len(set) == 0 || !claim.Within(set, may) {
		return nil, api.ErrIdpScope
	}
	return set, api.OK
}

func (t *turn) consent(session, client string, scopes []string) api.Errno {
	s, c, e := t.both(session, client)
	if e != api.OK {
		return e
	}
	set, e := asked(scopes, c.Scopes)
	if e != api.OK {
		return e
	}
	was, _ := t.Consent(s.User, c.ID)
	all, e := claim.Union(was.Scopes, set)
	t.want(e == api.OK)
	t.PutConsent(api.Consent{User: s.User, Client: c.ID, Scopes: all})
	return api.OK
}

// both tells a session and a client.
func (t *turn) both(session, client string) (api.Session, api.Client, api.Errno) {
	s, there := t.session(session)
	if !there {
		return api.Session{}, api.Client{}, api.ErrIdpSession
	}
	c, there := t.Client(client)
	if !there {
		return api.Session{}, api.Client{}, api.ErrIdpClient
	}
	return s, c, api.OK
}

func (t *turn) withdraw(session, client string) (int, api.Errno) {
	s, c, e := t.both(session, client)
	if e != api.OK {
		return 0, e
	}
	return t.removeAll(func(user, client string) bool { return user == s.User && client == c.ID }), api.OK
}
