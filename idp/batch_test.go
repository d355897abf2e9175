package idp_test

import (
	"fmt"
	"testing"

	"postern/api"
	"postern/ledger"
)

// TestP17_1Batch: what a call changes is one batch, of which Version tells; the disk is written to once.
func TestP17_1Batch(t *testing.T) {
	for _, kind := range kinds() {
		for n := range writing(on{}) {
			w := begun(t, kind)
			c := writing(w.worked())[n]
			before, writes, version := pairsOf(w.ledger()), w.d.Writes(), w.version()
			c.do(w.p)
			if v := w.version(); w.d.Writes() != writes+1 || v != version+1 {
				t.Errorf("%s: %d writes, version %d behind %d", c.what, w.d.Writes()-writes, v, version)
			}
			if len(differing(before, pairsOf(w.ledger()))) == 0 {
				t.Errorf("%s: nothing has changed", c.what)
			}
		}
	}
}

// TestP17_1None: a call that has nothing to change commits none; so it does over a disk that is off.
func TestP17_1None(t *testing.T) {
	for _, kind := range kinds() {
		w := begun(t, kind)
		o := w.worked()
		for range 2 {
			for _, c := range idle(o) {
				w.drawing(c.what, 0, func() { w.doing(c.what, func() { c.do(w.p) }) })
			}
			w.d.Arm(1, 0)
			w.d.Append("other", nil)
			for _, c := range idle(o) {
				if _, e := c.do(w.p); e == api.ErrIdpOff {
					t.Errorf("%s: %d", c.what, e)
				}
			}
			w.d.On()
			w.tick(1)
		}
	}
}

// TestP17_1Expire: whatever a call changes, what is expired goes in the same batch; by a provider's own calls a dead grant that nothing holds any more is the one thing of that kind.
func TestP17_1Expire(t *testing.T) {
	for _, kind := range kinds() {
		w := begun(t, kind)
		w.c.Code = 200
		_, _, i := w.issued()
		w.tick(20)
		w.doing("a grant that dies behind its access token", func() {
			wantErrno(t, "Revoke", w.p.Revoke("shop", "s", i.Refresh), api.OK)
		}, grantKey(1), refreshKey(8))
	}
}

// TestP17_1Rows: rows that are expired already, past the provider, go in the next batch, and not ahead of it.
func TestP17_1Rows(t *testing.T) {
	w := begun(t, held)
	w.tick(30)
	keys := expiredRows(w)
	w.doing("a call that has nothing to change", func() { w.p.Logout(fake("se_")); w.p.Tick(0) })
	w.doing("a call that has", func() { w.addUser("bob") }, append(keys, userKey("bob"), ringKey, revokedKey)...)
}

// expiredRows lays, at 30, rows that have just expired, and grants that are not held any more; it tells the keys of those that have keys of their own.
func expiredRows(w *world) []string {
	w.t.Helper()
	w.spoil(func(x *ledger.Tx) {
		x.PutSession(api.Session{ID: draw(100), User: "ann", Exp: 30})
		x.PutCode(api.Code{ID: draw(101), User: "ann", Client: "shop", Redirect: "x", Scopes: []string{"a"}, Exp: 30})
		x.PutGrant(api.Grant{N: 1, User: "ann", Client: "shop", Scopes: []string{"a"}, Engine: held, Live: true, Current: draw(102), Exp: 30, Last: 30, Issues: 1})
		x.PutGrant(api.Grant{N: 2, User: "ann", Client: "shop", Scopes: []string{"a"}, Engine: held, Current: draw(103), Exp: 90, Last: 30, Issues: 1})
		x.PutRefresh(api.Refresh{ID: draw(102), Grant: 1, Exp: 30})
		x.PutHeld(api.Held{Claims: api.Claims{Iss: "iss", Sub: "ann", Client: "shop", Aud: "api", Scopes: []string{"a"}, Grant: 1, Exp: 30, ID: draw(104)}, Kid: 1})
		x.SetRevoked([]api.Revoked{{Whole: true, Grant: 1, Exp: 30}})
		r := x.Ring()
		r.Next++
		r.Keys = append([]api.Key{{Kid: 1, Until: 30}}, api.Key{Kid: 2, Secret: r.Keys[0].Secret})
		x.SetRing(r)
		x.SetNext(3)
	})
	return []string{sessionKey(100), codeKey(101), grantKey(1), grantKey(2), refreshKey(102), heldKey(104)}
}

// TestP17_1Expired: to every call such rows are as if they weren't there.
func TestP17_1Expired(t *testing.T) {
	w := begun(t, held)
	w.tick(30)
	expiredRows(w)
	w.refused("a session", api.ErrIdpSession, func() (any, api.Errno) { return only(w.p.Logout(text("se_", draw(100)))) })
	w.refused("a code", api.ErrIdpGrant, func() (any, api.Errno) {
		i, e := w.p.Exchange("shop", "s", text("ac_", draw(101)), "x", "")
		return i, e
	})
	w.refused("a refresh token", api.ErrIdpGrant, func() (any, api.Errno) {
		i, e := w.p.Renew("shop", "s", text("rt_", draw(102)), nil)
		return i, e
	})
	w.refused("a key", api.ErrIdpKey, func() (any, api.Errno) { return only(w.p.Distrust(1)) })
	w.taken("a held token", false, text("at_", draw(104)))
	w.doing("Revoke of them", func() {
		wantErrno(t, "Revoke", w.p.Revoke("shop", "s", text("rt_", draw(102))), api.OK)
		wantErrno(t, "Revoke", w.p.Revoke("shop", "s", text("at_", draw(104))), api.OK)
	})
	// Grants that are not held can't die.
	if n, e := w.p.RemoveUser("ann"); n != 0 || e != api.OK {
		t.Errorf("RemoveUser: %d, %d", n, e)
	}
}

// TestP17_1Limits: what is expired does not count.
func TestP17_1Limits(t *testing.T) {
	w := begun(t, held)
	s := w.session()
	w.spoil(func(x *ledger.Tx) {
		x.SetClock(30)
		for n := range uint64(api.MaxSessions + 5) {
			x.PutSession(api.Session{ID: draw(1000 + n), User: "ann", Exp: 30})
			x.PutCode(api.Code{ID: draw(1000 + n), User: "ann", Client: "shop", Redirect: "x", Scopes: []string{"a"}, Exp: 29})
			x.PutGrant(api.Grant{N: 100 + n, User: "ann", Client: "shop", Engine: held, Live: n%2 == 0, Exp: 30, Last: 30})
		}
		r := x.Ring()
		for len(r.Keys) < api.MaxKeys {
			r.Keys = append([]api.Key{{Kid: uint64(api.MaxKeys - len(r.Keys)), Until: 30}}, r.Keys...)
		}
		r.Keys[api.MaxKeys-1].Kid = 9
		r.Next = 10
		x.SetRing(r)
	})
	// Each of them in a world of its own: the first batch takes all that is expired.
	for what, do := range map[string]func(v *world) api.Errno{
		"Login":     func(v *world) api.Errno { _, e := v.p.Login("ann", "pw"); return e },
		"Authorize": func(v *world) api.Errno { _, e := v.p.Authorize(s, "shop", "x", []string{"a"}, ""); return e },
		"Rotate":    func(v *world) api.Errno { _, e := v.p.Rotate(); return e },
	} {
		wantErrno(t, what, do(w.copied()), api.OK)
	}
	v := w.copied()
	v.rows(func(x *ledger.Tx) {
		x.PutCode(api.Code{ID: draw(2), User: "ann", Client: "shop", Redirect: "x", Scopes: []string{"a"}, Exp: 31})
	})
	v.open()
	_, e := v.p.Exchange("shop", "s", text("ac_", draw(2)), "x", "")
	wantErrno(t, "Exchange", e, api.OK)
}

// TestP17_2Off: once a commit is refused each call tells ErrIdpOff, whatever else it would have told, and nothing else; also when the power is back.
func TestP17_2Off(t *testing.T) {
	for _, kind := range kinds() {
		for n := range writing(on{}) {
			w := begun(t, kind)
			o := w.worked()
			c := writing(o)[n]
			before := pairsOf(w.ledger())
			w.d.Arm(1, n%3)
			got, e := c.do(w.p)
			wantErrno(t, c.what, e, api.ErrIdpOff)
			wantNothing(t, c.what, got)
			for range 2 {
				w.h.asked = nil
				for _, c := range append(append(writing(o), idle(o)...), refusals(o)...) {
					got, e := c.do(w.p)
					wantErrno(t, c.what+", off", e, api.ErrIdpOff)
					wantNothing(t, c.what+", off", got)
				}
				wantSame(t, c.what+": draws", w.h.asked, []int{})
				w.d.On()
			}
			if got := differing(before, pairsOf(w.ledger())); len(got) > 0 {
				t.Errorf("%s: %q have changed", c.what, got)
			}
		}
	}
}

// refusals tells calls that are refused for other reasons.
func refusals(o on) []call {
	var l []call
	for _, c := range idle(on{}) {
		c.what += ", wrong"
		l = append(l, c)
	}
	for _, c := range writing(on{}) {
		c.what += ", wrong"
		l = append(l, c)
	}
	return l
}

// TestP17_2Compact: a compaction that is refused puts it off, too.
func TestP17_2Compact(t *testing.T) {
	for n := 1; n <= 3; n++ {
		w := begun(t, sealed)
		all := w.all()
		w.d.Arm(n, 0)
		wantErrno(t, "Compact", w.p.Compact(), api.ErrIdpOff)
		w.d.On()
		_, e := w.p.State()
		wantErrno(t, "State", e, api.ErrIdpOff)
		wantErrno(t, "Compact", w.p.Compact(), api.ErrIdpOff)
		w.open()
		wantSame(t, "opened", w.all(), all)
	}
}

// TestP17_2Room: a disk that others have filled is an error of the store as well.
func TestP17_2Room(t *testing.T) {
	w := begun(t, sealed)
	size := 0
	for _, f := range w.d.Files() {
		size += len(f.Bytes)
	}
	wantErrno(t, "Append", w.d.Append("other", make([]byte, room-size)), api.OK)
	w.taken("a full disk", false, "at_")
	wantErrno(t, "Tick", w.p.Tick(1), api.ErrIdpOff)
	wantErrno(t, "Remove", w.d.Remove("other"), api.OK)
	_, e := w.p.Version()
	wantErrno(t, "Version", e, api.ErrIdpOff)
	w.open()
	wantErrno(t, "Tick", w.p.Tick(1), api.OK)
}

// TestP17_2Full: a store that has no room refuses the commit; so the provider is off, over rows that are too many for any.
func TestP17_2Full(t *testing.T) {
	w := begun(t, sealed)
	w.spoil(func(x *ledger.Tx) {
		for n := len(pairsOf(x)); n < limits().Pairs; n++ {
			x.PutConsent(api.Consent{User: "eve", Client: fmt.Sprint(n)})
		}
	})
	wantErrno(t, "AddUser", w.p.AddUser("bob", "pw"), api.ErrIdpOff)
	_, e := w.p.State()
	wantErrno(t, "State", e, api.ErrIdpOff)
	w.open()
	wantErrno(t, "Tick of 0", w.p.Tick(0), api.OK)
}
