package ledger_test

import (
	"fmt"
	"math"
	"math/rand"
	"testing"

	"postern/api"
	"postern/ledger"
)

// times tells clocks, and for each the times about it.
func times() map[int64][]int64 {
	top, low := int64(math.MaxInt64), int64(math.MinInt64)
	return map[int64][]int64{
		0:       {low, -1, 0, 1, top},
		10:      {low, -10, 0, 9, 10, 11, top},
		-10:     {low, -11, -10, -9, 0, top},
		top:     {low, 0, top - 1, top},
		top - 1: {low, top - 2, top - 1, top},
		low:     {low, low + 1, 0, top},
	}
}

// aged tells rows of each kind that expires, with this time.
func aged(at int64) []any {
	return []any{api.Session{Exp: at}, api.Code{Exp: at}, api.Refresh{Exp: at}, heldWith(api.Claims{Exp: at})}
}

// TestP13_5Rows: sessions, codes, refresh tokens and held tokens go, if their Exp is not above the clock.
func TestP13_5Rows(t *testing.T) {
	for now, about := range times() {
		for _, at := range about {
			for _, row := range aged(at) {
				what := fmt.Sprintf("%T until %d at %d", row, at, now)
				x := begun(t, clock(now), row)
				gone := at <= now
				wantInt(t, what, x.Expire(), map[bool]int{true: 1}[gone])
				if gone {
					wantNone(t, what, x, row)
				} else {
					wantRow(t, what, x, row)
				}
				wantInt(t, what+", again", x.Expire(), 0)
				wantErrno(t, what, x.Err(), api.OK)
			}
		}
	}
}

// TestP13_5Held: of claims it is Exp alone that counts; of a code and a session nothing else does.
func TestP13_5Held(t *testing.T) {
	stay := []any{
		api.Session{ID: id(1), Exp: 6}, api.Code{ID: id(1), Exp: 6, Grant: 1}, api.Refresh{ID: id(1), Grant: 1, Exp: 6},
		api.Held{Claims: api.Claims{ID: id(1), Iat: 1, Grant: 2, Exp: 6}, Kid: 1},
		api.User{Meter: api.Meter{At: 1}}, api.Client{}, api.Consent{}, next(1), api.Shift{Cursor: 1}, api.Config{Access: 1},
	}
	x := begun(t, append(stay, clock(5))...)
	before := pairsOf(x.Range(nil))
	wantInt(t, "Expire", x.Expire(), 0)
	if pairsOf(x.Range(nil)) != before {
		t.Error("something has changed")
	}
}

// TestP13_5Grants: a live grant goes if neither Exp nor Last is above the clock, a dead one if Last is not; whatever Sealed is.
func TestP13_5Grants(t *testing.T) {
	for now, about := range times() {
		for _, exp := range about {
			for _, last := range about {
				for n, live := range []bool{false, true} {
					r := api.Grant{N: uint64(n), Live: live, Exp: exp, Last: last, Sealed: math.MaxInt64 * int64(n), Issues: 1}
					what := fmt.Sprintf("live %v, Exp %d, Last %d at %d", live, exp, last, now)
					x := begun(t, clock(now), r)
					gone := last <= now && (!live || exp <= now)
					wantInt(t, what, x.Expire(), map[bool]int{true: 1}[gone])
					_, there := x.Grant(r.N)
					wantBool(t, what, there, !gone)
					wantInt(t, what+", again", x.Expire(), 0)
				}
			}
		}
	}
}

// TestP13_5Ring: keys go whose Until is not 0 and not above the clock; the others stay as they stood, and Next.
func TestP13_5Ring(t *testing.T) {
	for now, about := range times() {
		r, want, n := api.Ring{Next: 77}, api.Ring{Next: 77}, 0
		for i, until := range append(about, append(about, 0)...) {
			k := api.Key{Kid: uint64(i), Secret: block(byte(i)), Until: until}
			r.Keys = append(r.Keys, k)
			if until != 0 && until <= now {
				n++
			} else {
				want.Keys = append(want.Keys, k)
			}
		}
		x := begun(t, clock(now), r)
		wantInt(t, "Expire", x.Expire(), n)
		wantSame(t, "Ring", x.Ring(), want)
		wantInt(t, "Expire again", x.Expire(), 0)
	}
}

// TestP13_5List: entries of the list go whose Exp is not above the clock, be they of whole grants or not; the others stay as they stood.
func TestP13_5List(t *testing.T) {
	for now, about := range times() {
		var l, want revoked
		for i, exp := range append(about, append([]int64{0}, about...)...) {
			e := api.Revoked{Whole: i%2 == 0, Grant: uint64(100 - i), ID: id(byte(i)), Exp: exp}
			l = append(l, e)
			if exp > now {
				want = append(want, e)
			}
		}
		x := begun(t, clock(now), l)
		wantInt(t, "Expire", x.Expire(), len(l)-len(want))
		wantSame(t, "Revoked", revoked(x.Revoked()), want)
		wantInt(t, "Expire again", x.Expire(), 0)
	}
}

// TestP13_5Last: where all entries and keys go, the list and the ring stay, empty; where there was none, none is laid.
func TestP13_5Last(t *testing.T) {
	_, s := started(t, wide, clock(5), revoked{{Exp: 5}, {Exp: 1}}, api.Ring{Next: 9, Keys: []api.Key{{Until: 5}}})
	x := ledger.Begin(s)
	wantInt(t, "Expire", x.Expire(), 3)
	wantErrno(t, "Commit", x.Commit(), api.OK)
	_, want := started(t, wide, clock(5), revoked{}, api.Ring{Next: 9})
	if storeOf(s) != storeOf(want) {
		t.Errorf("%s, not %s", storeOf(s), storeOf(want))
	}
	d, s := started(t, wide, clock(5), api.User{})
	writes := d.Writes()
	x = ledger.Begin(s)
	wantInt(t, "nothing to expire", x.Expire(), 0)
	wantErrno(t, "Commit", x.Commit(), api.OK)
	wantInt(t, "writes", d.Writes(), writes)
}

// TestP13_5Clock: the clock is the one that the transaction sees; where none was set, it is 0.
func TestP13_5Clock(t *testing.T) {
	x := begun(t, aged(0)...)
	wantInt(t, "no clock", x.Expire(), 4)
	x = begun(t, aged(1)...)
	wantInt(t, "no clock", x.Expire(), 0)
	x.SetClock(1)
	wantInt(t, "its own clock", x.Expire(), 4)
	for _, row := range aged(2) {
		put(x, row)
	}
	x.PutGrant(api.Grant{N: 7, Live: true, Exp: 10, Last: 5})
	x.SetClock(9)
	wantInt(t, "its own rows", x.Expire(), 4)
	x.SetClock(10)
	wantInt(t, "its own grant", x.Expire(), 1)
	x.PutGrant(api.Grant{N: 8, Last: 5})
	x.SetClock(5)
	wantInt(t, "a dead one", x.Expire(), 1)
	wantErrno(t, "Err", x.Err(), api.OK)
}

// TestP13_5Together: all kinds at once: how many there were, and just these are gone.
func TestP13_5Together(t *testing.T) {
	r := rand.New(rand.NewSource(135))
	for range 200 {
		_, s := started(t, wide)
		x, m := ledger.Begin(s), model{}
		for range 30 {
			row := m.any(r)
			put(x, row)
			m.put(row)
		}
		if r.Intn(2) == 0 {
			wantErrno(t, "Commit", x.Commit(), api.OK)
			x = ledger.Begin(s)
		}
		wantInt(t, "Expire", x.Expire(), m.expire())
		if got := pairsOf(x.Range(nil)); got != m.pairs() {
			t.Errorf("%s, not %s", got, m.pairs())
		}
		wantInt(t, "Expire again", x.Expire(), 0)
		wantErrno(t, "Commit", x.Commit(), api.OK)
		if storeOf(s) != m.pairs() {
			t.Error("committed")
		}
	}
}
