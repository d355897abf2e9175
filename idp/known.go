package idp

import (
	"math"
	"slices"
	"strings"

	"postern/api"
	"postern/engine"
	"postern/radix"
	"postern/revoke"
	"postern/ring"
)

// What stands ahead of a draw's text.
const (
	sessionFront = "se_"
	codeFront    = "ac_"
	refreshFront = "rt_"
)

func textOf(front string, id api.ID) string { return front + radix.Text64(id[:]) }

func idOf(front, text string) (api.ID, bool) {
	letters, begins := strings.CutPrefix(text, front)
	if !begins {
		return api.ID{}, false
	}
	b, e := radix.Bytes64(letters)
	if e != api.OK || len(b) != len(api.ID{}) {
		return api.ID{}, false
	}
	return api.ID(b), true
}

// known tells the row of a text, if it is not expired.
func known[R any](t *turn, front, text string, row func(api.ID) (R, bool), exp func(R) int64) (R, bool) {
	var none R
	id, is := idOf(front, text)
	if !is {
		return none, false
	}
	r, there := row(id)
	if !there || t.gone(exp(r)) {
		return none, false
	}
	return r, true
}

func (t *turn) session(text string) (api.Session, bool) {
	s, there := known(t, sessionFront, text, t.Session, expOfSession)
	if there {
		t.wantUser(s.User)
	}
	return s, there
}

func (t *turn) code(text string) (api.Code, bool) {
	c, there := known(t, codeFront, text, t.Code, expOfCode)
	if there {
		t.wantUser(c.User)
	}
	return c, there
}

// refresh tells the grant of a refresh token, and whether the token is its current one.
func (t *turn) refresh(text string) (g api.Grant, current, there bool) {
	r, there := known(t, refreshFront, text, t.Refresh, expOfRefresh)
	if !there {
		return api.Grant{}, false, false
	}
	g, there = t.grant(r.Grant)
	t.want(there && g.Live)
	t.wantUser(g.User)
	return g, g.Current == r.ID, true
}

func (t *turn) grant(n uint64) (api.Grant, bool) {
	g, there := t.Grant(n)
	if !there || !t.isHeld(g) {
		return api.Grant{}, false
	}
	t.want(isEngine(g.Engine))
	return g, true
}

func expOfSession(r api.Session) int64 { return r.Exp }
func expOfCode(r api.Code) int64       { return r.Exp }
func expOfRefresh(r api.Refresh) int64 { return r.Exp }

// wantUser asks for the user of a row that would have gone with it.
func (t *turn) wantUser(name string) {
	_, there := t.User(name)
	t.want(there)
}

// gone tells whether what has this exp is expired.
func (t *turn) gone(exp int64) bool { return exp <= t.now }

func (t *turn) isHeld(g api.Grant) bool { return !t.gone(g.Last) || g.Live && !t.gone(g.Exp) }

// sessions, codes, grants, keys, revoked tell those that are there still.
func (t *turn) sessions() []api.Session {
	return slices.DeleteFunc(t.Sessions(), func(r api.Session) bool { return t.gone(r.Exp) })
}

func (t *turn) codes() []api.Code {
	return slices.DeleteFunc(t.Codes(), func(r api.Code) bool { return t.gone(r.Exp) })
}

func (t *turn) grants() []api.Grant {
	return slices.DeleteFunc(t.Grants(), func(g api.Grant) bool { return !t.isHeld(g) })
}

func (t *turn) keys() api.Ring { return ring.Prune(t.Ring(), t.now) }

func (t *turn) revoked() []api.Revoked { return revoke.Prune(t.Revoked(), t.now) }

// until tells the end of a life that begins now.
func (t *turn) until(life int64) (int64, api.Errno) {
	if t.now > math.MaxInt64-life {
		return 0, api.ErrIdpClock
	}
	return t.now + life, api.OK
}

func isEngine(kind int) bool {
	_, e := engine.Of(kind)
	return e == api.OK
}
