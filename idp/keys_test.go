package idp_test

import (
	"math"
	"testing"

	"postern/api"
	"postern/ledger"
	"postern/ring"
)

func secretOf(a, b uint64) [32]byte {
	p, q := draw(a), draw(b)
	return [32]byte(append(p[:], q[:]...))
}

func TestP17_17Rotate(t *testing.T) {
	for _, kind := range kinds() {
		w := begun(t, kind)
		_, _, i := w.issued()
		w.tick(4)
		n, before := w.h.drawn, w.ring()
		w.drawing("Rotate", 2, func() {
			w.doing("Rotate", func() {
				kid, e := w.p.Rotate()
				wantSame(t, "the kid", kid, 2)
				wantErrno(t, "Rotate", e, api.OK)
			}, ringKey)
		})
		want, e := ring.Rotate(before, secretOf(n+1, n+2), 14)
		wantErrno(t, "ring.Rotate", e, api.OK)
		wantSame(t, "the ring", w.ring(), want)
		k := w.renew(i.Refresh)
		w.taken("by the old key, and the new one", true, i.Access, k.Access)
		w.tick(10)
		wantSame(t, "the ring behind", w.ring().Keys, []api.Key{{Kid: 2, Secret: secretOf(n+1, n+2)}})
		kid, e := w.p.Rotate()
		wantSame(t, "the kid", kid, 3)
		wantErrno(t, "Rotate", e, api.OK)
	}
}

func TestP17_17Errors(t *testing.T) {
	for _, kind := range kinds() {
		w := begun(t, kind)
		rotate := func() (any, api.Errno) { k, e := w.p.Rotate(); return k, e }
		w.tick(last - 10)
		for n := 1; n < api.MaxKeys; n++ {
			_, e := w.p.Rotate()
			wantErrno(t, "Rotate", e, api.OK)
		}
		w.h.other = badDraws(2)["a panic"]
		w.refused("full", api.ErrIdpFull, rotate)
		w.tick(1)
		w.refused("full, ahead of the clock", api.ErrIdpFull, rotate)
		wantErrno(t, "Distrust", w.p.Distrust(3), api.OK)
		w.refused("the clock", api.ErrIdpClock, rotate)
		v := begun(t, kind)
		for n := range 20 {
			_, e := v.p.Rotate()
			wantErrno(t, "Rotate", e, api.OK)
			wantSame(t, "keys", len(v.ring().Keys), min(n+2, 5))
			v.tick(3) // each is there for 10
		}
	}
}

func TestP17_18Distrust(t *testing.T) {
	for _, kind := range kinds() {
		w := begun(t, kind)
		_, _, i := w.issued() // key 1
		w.p.Rotate()
		j := w.renew(i.Refresh) // key 2
		w.p.Begin(sealed + held - kind)
		w.p.Step(1)
		k := w.renew(j.Refresh) // key 2, by the other engine
		w.p.Rotate()
		l := w.renew(k.Refresh) // key 3
		w.taken("all", true, i.Access, j.Access, k.Access, l.Access)
		for _, kid := range []uint64{0, 4, 1 << 32, 1 << 63, math.MaxUint64} {
			w.refused("no such key", api.ErrIdpKey, func() (any, api.Errno) { return only(w.p.Distrust(kid)) })
		}
		for _, row := range []struct {
			kid   uint64
			draws int
			gone  []string
		}{{1, 0, []string{i.Access}}, {2, 0, []string{j.Access, k.Access}}, {3, 2, []string{l.Access}}} {
			v := w.copied()
			before, n := v.ring(), v.h.drawn
			var secret [32]byte
			if row.draws > 0 {
				secret = secretOf(n+1, n+2)
			}
			want, e := ring.Distrust(before, row.kid, secret)
			wantErrno(t, "ring.Distrust", e, api.OK)
			v.drawing("Distrust", row.draws, func() { wantErrno(t, "Distrust", v.p.Distrust(row.kid), api.OK) })
			wantSame(t, "the ring", v.ring(), want)
			v.taken("of that key", false, row.gone...)
			for _, token := range []string{i.Access, j.Access, k.Access, l.Access} {
				is := true
				for _, gone := range row.gone {
					is = is && token != gone
				}
				v.taken("the others", is, token)
			}
			for _, h := range v.held() {
				if h.Kid == row.kid {
					t.Errorf("a held token of %d is left", row.kid)
				}
			}
			v.refused("once more", api.ErrIdpKey, func() (any, api.Errno) { return only(v.p.Distrust(row.kid)) })
			m := v.renew(l.Refresh)
			v.taken("the grant lives on", true, m.Access)
			wantSame(t, "the grant", v.grant(1).Live, true)
		}
	}
}

// TestP17_18Keys: which pairs a distrust changes.
func TestP17_18Keys(t *testing.T) {
	w := begun(t, held)
	_, _, i := w.issued() // 8 is its refresh token, 7 its access token
	w.p.Rotate()          // 9, 10
	w.renew(i.Refresh)    // 11
	w.doing("the first one", func() { w.p.Distrust(1) }, ringKey, heldKey(7))
	w.h.other = badDraws(2)["none"]
	w.refused("the current one", api.ErrIdpDraws, func() (any, api.Errno) {
		e := w.p.Distrust(2)
		w.h.asked = nil
		return only(e)
	})
	w.h.other = nil
	w.doing("the current one", func() { w.p.Distrust(2) }, ringKey, heldKey(11))
}

// TestP17_18Shift: what shift answers is handed on.
func TestP17_18Shift(t *testing.T) {
	for _, kind := range kinds() {
		other := sealed + held - kind
		w := begun(t, kind)
		begin := func(to int) func() (any, api.Errno) {
			return func() (any, api.Errno) { return only(w.p.Begin(to)) }
		}
		stepping := func(n int) func() (any, api.Errno) {
			return func() (any, api.Errno) { n, end, e := w.p.Step(n); return step{n, end}, e }
		}
		s := w.session()
		for range 5 {
			w.exchange(w.code(s))
		}
		for _, to := range []int{0, 3, -1, 257, math.MaxInt, math.MinInt} {
			w.refused("no engine", api.ErrEngineKind, begin(to))
		}
		w.refused("the same", api.ErrShiftSame, begin(kind))
		for _, n := range []int{0, 1, 64, 65} {
			w.refused("none goes on", api.ErrShiftOff, stepping(n))
		}
		w.doing("Begin", func() { wantErrno(t, "Begin", w.p.Begin(other), api.OK) }, shiftKey)
		wantSame(t, "the shift", w.state().Shift, api.Shift{On: true, From: kind, To: other})
		w.refused("one goes on", api.ErrShiftOn, begin(kind))
		w.refused("one goes on", api.ErrShiftOn, begin(other))
		w.refused("no engine", api.ErrEngineKind, begin(9))
		for _, n := range []int{0, -1, 65, math.MaxInt, math.MinInt} {
			w.refused("a batch", api.ErrShiftBatch, stepping(n))
		}
		for _, row := range []struct {
			n    int
			want step
			keys []string
		}{
			{2, step{2, false}, []string{grantKey(1), grantKey(2), shiftKey}},
			{1, step{1, false}, []string{grantKey(3), shiftKey}},
			{64, step{2, false}, []string{grantKey(4), grantKey(5), shiftKey}},
			{64, step{0, true}, []string{shiftKey}},
		} {
			w.drawing("Step", 0, func() {
				w.doing("Step", func() {
					moved, ended, e := w.p.Step(row.n)
					wantSame(t, "Step", step{moved, ended}, row.want)
					wantErrno(t, "Step", e, api.OK)
				}, row.keys...)
			})
		}
		wantSame(t, "the shift", w.state().Shift, api.Shift{From: other, Epoch: 1})
		for n := range uint64(5) {
			wantSame(t, "the engine", w.grant(n+1).Engine, other)
		}
		w.refused("ended", api.ErrShiftOff, stepping(1))
	}
}

func TestP17_19Tick(t *testing.T) {
	for _, kind := range kinds() {
		w := begun(t, kind)
		tick := func(n int64) func() (any, api.Errno) {
			return func() (any, api.Errno) { return only(w.p.Tick(n)) }
		}
		for _, n := range []int64{-1, -2, first, first + 1} {
			w.refused("below 0", api.ErrIdpClock, tick(n))
		}
		w.refused("of 0", api.OK, tick(0))
		w.doing("Tick", func() { w.tick(5) }, clockKey)
		wantSame(t, "the clock", w.state().Clock, 5)
		w.refused("of 0, again", api.OK, tick(0))
		for _, n := range []int64{last, last - 4, -1, first} {
			w.refused("beyond", api.ErrIdpClock, tick(n))
		}
		w.doing("Tick", func() { w.tick(last - 5) }, clockKey)
		wantSame(t, "the clock", w.state().Clock, last)
		for _, n := range []int64{1, 2, last, -1, first} {
			w.refused("beyond", api.ErrIdpClock, tick(n))
		}
		w.refused("of 0, at the end", api.OK, tick(0))
		w.spoil(func(x *ledger.Tx) { x.SetClock(-5) })
		for _, n := range []int64{first, first + 4, -1} {
			w.refused("below 0, at a clock that no provider has", api.ErrIdpClock, tick(n))
		}
	}
}

// TestP17_19Expire: what is expired when the clock comes to it goes with the tick.
func TestP17_19Expire(t *testing.T) {
	for _, kind := range kinds() {
		w := peopled(t, changed(func(c *api.Config) { c.Engine, c.Access, c.Refresh, c.Code, c.Session = kind, 10, 20, 5, 15 }))
		_, _, i := w.issued() // 5; 6; 7 and 8
		w.p.Rotate()
		w.p.Revoke("shop", "s", i.Access)
		k := w.renew(i.Refresh) // 11 and 12
		access := []string{}
		if kind == held {
			access = []string{heldKey(11)}
		} else {
			access = []string{revokedKey}
		}
		w.doing("to 4", func() { w.tick(4) }, clockKey)
		w.doing("to 5", func() { w.tick(1) }, clockKey, codeKey(6))
		w.doing("to 9", func() { w.tick(4) }, clockKey)
		w.taken("till 9", true, k.Access)
		w.doing("to 10", func() { w.tick(1) }, append(access, clockKey, ringKey)...)
		w.doing("to 14", func() { w.tick(4) }, clockKey)
		w.doing("to 15", func() { w.tick(1) }, clockKey, sessionKey(5))
		w.doing("to 19", func() { w.tick(4) }, clockKey)
		w.doing("to 20", func() { w.tick(1) }, clockKey, grantKey(1), refreshKey(8), refreshKey(12))
		s := w.state()
		if len(s.Users) != 1 || len(s.Clients) != 1 || len(s.Consents) != 1 || len(s.Sessions)+len(s.Codes)+len(s.Grants)+len(s.Refreshes) > 0 {
			t.Errorf("at 20: %+v", s)
		}
	}
}

func TestP17_20Compact(t *testing.T) {
	for _, kind := range kinds() {
		w := begun(t, kind)
		_, _, i := w.issued()
		for range 2 {
			all, version, writes := w.all(), w.version(), w.d.Writes()
			wantErrno(t, "Compact", w.p.Compact(), api.OK)
			wantSame(t, "what is told", w.all(), all)
			wantSame(t, "Version", w.version(), version)
			if w.d.Writes() == writes {
				t.Error("nothing was written")
			}
			names, _ := w.d.Names()
			wantSame(t, "files", names, []string{"snap"})
			w.taken("the token", true, i.Access)
			w.open()
			wantSame(t, "opened", w.all(), all)
			w.tick(1)
		}
	}
}

// TestP17_20Full: a store whose number is the last one can't be compacted; it goes on.
func TestP17_20Full(t *testing.T) {
	w := begun(t, sealed)
	wantErrno(t, "Compact", w.p.Compact(), api.OK)
	w.numbered(1<<62 - 1)
	wantErrno(t, "the last one", w.p.Compact(), api.OK)
	for range 2 {
		w.refused("full", api.ErrIdpFull, func() (any, api.Errno) { return only(w.p.Compact()) })
		w.tick(1)
	}
}

// TestP17_21Told: what is told is what the ledger tells.
func TestP17_21Told(t *testing.T) {
	for _, kind := range kinds() {
		p := newPeers(t, kind)
		p.p.Rotate()
		p.p.Revoke("shop", "s", p.tokens["ann shop"].Access)
		p.p.Withdraw(p.bob, "more")
		p.p.Begin(sealed + held - kind)
		p.p.Step(1)
		p.renew(p.tokens["ann shop"].Refresh)
		x := p.ledger()
		wantSame(t, "State", p.state(), x.State())
		wantSame(t, "Ring", p.ring(), x.Ring())
		wantSame(t, "Revoked", p.revoked(), x.Revoked())
		wantSame(t, "Held", p.held(), x.Helds())
		if len(p.held()) == 0 || kind == sealed && len(p.revoked()) == 0 {
			t.Error("too little is told")
		}
		wantErrno(t, "Err", x.Err(), api.OK)
	}
}

func TestP17_21Version(t *testing.T) {
	w := opened(t, config(held))
	wantSame(t, "begun", w.version(), 1)
	w.addUser("ann")
	wantSame(t, "AddUser", w.version(), 2)
	w.p.AddUser("ann", "pw")
	wantSame(t, "refused", w.version(), 2)
	w.p.Login("ann", "no")
	wantSame(t, "another password", w.version(), 3)
	w.p.Compact()
	wantSame(t, "Compact", w.version(), 3)
	w.tick(0)
	wantSame(t, "Tick of 0", w.version(), 3)
	w.open()
	wantSame(t, "opened", w.version(), 0)
	w.tick(1)
	wantSame(t, "Tick", w.version(), 1)
}
