package idp

import (
	"postern/api"
	"postern/claim"
	"postern/engine"
)

// found is what an access token says, if it is taken.
type found struct {
	claims api.Claims
	taken  bool
}

func (t *turn) find(token string) found {
	c, there := engine.Find(t.Tx, token)
	if !there || c.Iss != t.config.Issuer {
		return found{}
	}
	return found{c, true}
}

func (t *turn) introspect(client, secret, token string) (found, api.Errno) {
	if _, is := t.itself(client, secret); !is {
		return found{}, api.ErrIdpAuth
	}
	return t.find(token), api.OK
}

// issue hands out a grant's next two tokens, by the engine that is its own.
func (t *turn) issue(g api.Grant, aud string, scopes []string) (api.Issued, api.Errno) {
	exp, late := t.until(t.config.Access)
	end, later := t.until(t.config.Refresh)
	if late != api.OK || later != api.OK {
		return api.Issued{}, api.ErrIdpClock
	}
	c := api.Claims{Iss: t.config.Issuer, Sub: g.User, Client: g.Client, Aud: aud, Scopes: scopes, Grant: g.N, Iat: t.now, Exp: exp}
	mill, none := engine.Of(g.Engine)
	t.want(none == api.OK && claim.Check(c) == api.OK)
	l, e := t.draw(2)
	if e != api.OK {
		return api.Issued{}, e
	}
	c.ID = l[0]
	g.Current, g.Exp, g.Last, g.Issues = l[1], end, exp, g.Issues+1
	t.PutGrant(g)
	t.PutRefresh(api.Refresh{ID: g.Current, Grant: g.N, Exp: end})
	// Behind the grant's row: minting may raise what it knows of its sealed tokens.
	access, refused := mill.Mint(t.Tx, c)
	t.want(refused == api.OK)
	return api.Issued{Access: access, Refresh: textOf(refreshFront, g.Current), Scopes: scopes, Exp: exp, Life: t.config.Access}, api.OK
}

func (t *turn) renew(client, secret, refresh string, scopes []string) (api.Issued, api.Errno) {
	c, is := t.itself(client, secret)
	if !is {
		return api.Issued{}, api.ErrIdpAuth
	}
	g, current, there := t.refresh(refresh)
	switch {
	case !there || g.Client != client:
		return api.Issued{}, api.ErrIdpGrant
	case !current:
		// Handed in once more: whoever does so may have stolen it.
		t.die(g)
		return api.Issued{}, api.ErrIdpGrant
	}
	set := g.Scopes
	if len(scopes) > 0 {
		var e api.Errno
		if set, e = asked(scopes, g.Scopes); e != api.OK {
			return api.Issued{}, e
		}
	}
	if g.Issues >= api.MaxIssues {
		return api.Issued{}, api.ErrIdpFull
	}
	return t.issue(g, c.Aud, set)
}

func (t *turn) revoke(client, secret, token string) api.Errno {
	if _, is := t.itself(client, secret); !is {
		return api.ErrIdpAuth
	}
	if g, _, there := t.refresh(token); there && g.Client == client {
		t.die(g)
		return api.OK
	}
	f := t.find(token)
	if kind := engine.Form(token); f.taken && f.claims.Client == client && t.mayDrop(f.claims, kind) {
		mill, _ := engine.Of(kind)
		mill.Drop(t.Tx, f.claims)
	}
	return api.OK
}

// mayDrop tells whether a token may be one that the provider has handed out, and not revoked: others could fill the list.
func (t *turn) mayDrop(c api.Claims, kind int) bool {
	g, there := t.grant(c.Grant)
	if !there || !g.Live || c.Exp > g.Last || kind == api.EngineSealed && c.Exp > g.Sealed {
		return false
	}
	n := 0
	for _, r := range t.revoked() {
		if r.Grant == g.N {
			n++
		}
	}
	return n < g.Issues
}

// die ends a grant: none of its tokens is taken any more.
func (t *turn) die(g api.Grant) {
	g.Live = false
	t.PutGrant(g)
	for _, r := range t.Refreshes() {
		if r.Grant == g.N {
			t.DropRefresh(r.ID)
		}
	}
	for _, mill := range engines() {
		mill.Kill(t.Tx, g)
	}
}

func engines() []engine.Engine {
	var l []engine.Engine
	for _, kind := range [2]int{api.EngineSealed, api.EngineHeld} {
		if mill, e := engine.Of(kind); e == api.OK {
			l = append(l, mill)
		}
	}
	return l
}
