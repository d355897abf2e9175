package idp_test

import (
	"math/rand"
	"slices"
	"testing"

	"postern/api"
	"postern/idp"
	"postern/ledger"
)

// TestP17_4In: what is handed in is neither changed nor kept.
func TestP17_4In(t *testing.T) {
	for _, kind := range kinds() {
		w := opened(t, config(kind))
		w.addUser("ann")
		spoil := func(what string, l []string, do func(l []string)) {
			t.Helper()
			given := slices.Clone(l)
			do(given)
			if !slices.Equal(given, l) {
				t.Errorf("%s: %q has become %q", what, l, given)
			}
			for n := range given {
				given[n] = "spoilt"
			}
		}
		spoil("AddClient", []string{"y", "x"}, func(l []string) {
			scopes := []string{"a", "b"}
			w.addClient(client(func(c *api.Client) { c.Redirects, c.Scopes = l, scopes }), "s")
			scopes[0], scopes[1] = "b", "z"
		})
		wantSame(t, "the redirects", w.clientRow("shop").Redirects, []string{"y", "x"})
		wantSame(t, "the scopes", w.clientRow("shop").Scopes, []string{"a", "b"})
		s := w.login("ann")
		spoil("Consent", []string{"b", "a", "b"}, func(l []string) { w.consent(s, "shop", l...) })
		wantSame(t, "the consent", w.consentRow("ann", "shop"), []string{"a", "b"})
		var code string
		spoil("Authorize", []string{"b", "a"}, func(l []string) { code = w.codeOf(s, "shop", l...) })
		i := w.exchange(code)
		wantSame(t, "the scopes", i.Scopes, []string{"a", "b"})
		spoil("Renew", []string{"b", "a", "a"}, func(l []string) {
			k, e := w.p.Renew("shop", "s", i.Refresh, l)
			wantErrno(t, "Renew", e, api.OK)
			l[0], l[1], l[2] = "x", "y", "z"
			wantSame(t, "the scopes", k.Scopes, []string{"a", "b"})
			c, _, _ := w.p.Find(k.Access)
			wantSame(t, "the claims", c.Scopes, []string{"a", "b"})
			l[0], l[1], l[2] = "b", "a", "a"
		})
	}
}

// TestP17_4Out: what is told is the caller's own.
func TestP17_4Out(t *testing.T) {
	for _, kind := range kinds() {
		w := begun(t, kind)
		s := w.session()
		i := w.exchange(w.codeOf(s, "shop", "a", "b"))
		w.code(s)
		w.p.Rotate()
		all := w.all()
		i.Scopes[0], i.Scopes[1] = "z", "z"
		k := w.renew(i.Refresh)
		wantSame(t, "the scopes", k.Scopes, []string{"a", "b"})
		w.p.Revoke("shop", "s", i.Access)
		all = w.all()
		for range 2 {
			st := w.state()
			for n := range st.Users {
				st.Users[n] = api.User{}
			}
			for n := range st.Clients {
				st.Clients[n].Scopes[0], st.Clients[n].Redirects[0], st.Clients[n].ID = "z", "z", "z"
			}
			for n := range st.Consents {
				st.Consents[n].Scopes[0], st.Consents[n].User = "z", "z"
			}
			for n := range st.Codes {
				st.Codes[n].Scopes[0], st.Codes[n].Exp = "z", 0
			}
			for n := range st.Grants {
				st.Grants[n].Scopes[0], st.Grants[n].Live = "z", false
			}
			clear(st.Sessions)
			clear(st.Refreshes)
			r := w.ring()
			clear(r.Keys)
			clear(w.revoked())
			for _, h := range w.held() {
				h.Claims.Scopes[0] = "z"
			}
			clear(w.held())
			for _, find := range []func() (api.Claims, bool, api.Errno){
				func() (api.Claims, bool, api.Errno) { return w.p.Find(k.Access) },
				func() (api.Claims, bool, api.Errno) { return w.p.Introspect("shop", "s", k.Access) },
			} {
				c, is, _ := find()
				if !is || !slices.Equal(c.Scopes, []string{"a", "b"}) {
					t.Fatalf("%v, %v", c, is)
				}
				c.Scopes[0], c.Scopes[1] = "z", "z"
			}
			wantSame(t, "once more", w.all(), all)
		}
	}
}

// TestP17_4Apart: two providers have nothing in common, also over one configuration and one hand.
func TestP17_4Apart(t *testing.T) {
	for _, kind := range kinds() {
		w := begun(t, kind)
		_, _, i := w.issued()
		all := w.all()
		v := &world{t: t, d: newDisk(t, room), h: w.h, c: w.c}
		v.open()
		v.addUser("ann")
		v.addClient(shop(), "s")
		_, _, k := v.issued()
		v.p.Rotate()
		v.p.RemoveUser("ann")
		v.tick(1000)
		wantSame(t, "the first one", w.all(), all)
		w.taken("its own", true, i.Access)
		w.taken("the other one's", false, k.Access)
		v.d.Arm(1, 0)
		wantErrno(t, "Tick", v.p.Tick(1), api.ErrIdpOff)
		w.tick(1)
	}
}

// TestP17_4Any: every call ends, whatever is handed in, and whatever rows stand on the disk.
func TestP17_4Any(t *testing.T) {
	r := rand.New(rand.NewSource(1704))
	for round := range 150 {
		w := begun(t, kinds()[round%2])
		o := w.worked()
		w.p.Rotate()
		w.p.Begin(sealed + held - kinds()[round%2])
		w.rows(func(x *ledger.Tx) { shake(r, x) })
		p, e := idp.Open(w.d, w.c, w.h)
		if e != api.OK {
			if e != api.ErrIdpBad {
				t.Errorf("Open: %d", e)
			}
			continue
		}
		w.p = p
		calls := append(append(append(writing(o), idle(o)...), refusals(o)...), call{"Step", func(p *idp.Provider) (any, api.Errno) {
			n, end, e := p.Step(1 + r.Intn(64))
			return step{n, end}, e
		}}, call{"any", func(p *idp.Provider) (any, api.Errno) {
			some := func() string {
				b := make([]byte, r.Intn(70))
				r.Read(b)
				return []string{string(b), "ann", "shop", "s", "pw", o.session, o.code, o.i.Refresh, o.i.Access, "x", "a"}[r.Intn(11)]
			}
			p.AddUser(some(), some())
			p.AddClient(api.Client{ID: some(), Aud: some(), Redirects: []string{some()}, Scopes: []string{some()}}, some())
			p.Login(some(), some())
			p.SetPassword(some(), some(), some())
			p.Consent(some(), some(), []string{some(), some()})
			p.Authorize(some(), some(), some(), []string{some()}, some())
			p.Exchange(some(), some(), some(), some(), some())
			p.Renew(some(), some(), some(), []string{some()})
			p.Revoke(some(), some(), some())
			p.Withdraw(some(), some())
			p.Introspect(some(), some(), some())
			p.Distrust(r.Uint64())
			p.Step(r.Int())
			return nil, p.Tick(int64(r.Uint64()))
		}})
		for range 40 {
			c := calls[r.Intn(len(calls))]
			if got, e := c.do(w.p); e != api.OK {
				wantNothing(t, c.what, got)
			}
		}
	}
}

// shake changes some numbers of some rows, so that they are rows still.
func shake(r *rand.Rand, x *ledger.Tx) {
	some := func() int64 {
		return []int64{0, 1, -1, 5, 9, 10, 11, 50, 100, last, first, int64(r.Uint64())}[r.Intn(12)]
	}
	for _, g := range x.Grants() {
		if r.Intn(3) == 0 {
			g.Engine, g.Exp, g.Last, g.Sealed, g.Issues, g.Live = r.Intn(4), some(), some(), some(), int(some()), r.Intn(2) == 0
			x.PutGrant(g)
		}
	}
	for _, s := range x.Sessions() {
		if r.Intn(3) == 0 {
			s.Exp = some()
			x.PutSession(s)
		}
	}
	for _, c := range x.Codes() {
		if r.Intn(3) == 0 {
			c.Exp, c.Grant, c.Scopes = some(), uint64(some()), []string{"z", "a"}[:r.Intn(3)]
			x.PutCode(c)
		}
	}
	for _, c := range x.Refreshes() {
		if r.Intn(3) == 0 {
			c.Exp, c.Grant = some(), uint64(some())
			x.PutRefresh(c)
		}
	}
	for _, u := range x.Users() {
		if r.Intn(3) == 0 {
			u.Meter = api.Meter{Score: r.Uint64(), At: some()}
			x.PutUser(u)
		}
	}
	for _, c := range x.Helds() {
		if r.Intn(3) == 0 {
			c.Claims.Exp, c.Claims.Grant, c.Kid = some(), uint64(some()), uint64(some())
			x.PutHeld(c)
		}
	}
	switch r.Intn(8) {
	case 0:
		x.SetClock(some())
	case 1:
		x.SetNext(uint64(some()))
	case 2:
		x.SetShift(api.Shift{On: r.Intn(2) == 0, From: r.Intn(4), To: r.Intn(4), Cursor: uint64(some()), Epoch: uint64(some())})
	case 3:
		x.DropUser("ann")
	case 4:
		x.DropClient("shop")
	case 5:
		x.SetRevoked([]api.Revoked{{Whole: true, Grant: uint64(r.Intn(3)), Exp: some()}})
	case 6:
		k := x.Ring()
		k.Next = uint64(some())
		x.SetRing(k)
	}
}
