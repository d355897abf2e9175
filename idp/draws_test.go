package idp_test

import (
	"errors"
	"testing"

	"postern/api"
	"postern/idp"
)

// badDraws tells ways of not handing out n draws.
func badDraws(n int) map[string]func(int) ([]api.ID, bool) {
	some := func(n int) []api.ID { return (&hand{drawn: 200}).draws(n) }
	m := map[string]func(int) ([]api.ID, bool){
		"none":            func(int) ([]api.ID, bool) { return nil, false },
		"none, with some": func(n int) ([]api.ID, bool) { return some(n), false },
		"none, but true":  func(int) ([]api.ID, bool) { return nil, true },
		"one less":        func(n int) ([]api.ID, bool) { return some(n - 1), true },
		"one more":        func(n int) ([]api.ID, bool) { return some(n + 1), true },
		"many":            func(n int) ([]api.ID, bool) { return some(n * 64), true },
		"a panic":         func(int) ([]api.ID, bool) { panic("no draws") },
		"an error":        func(int) ([]api.ID, bool) { panic(errors.New("no draws")) },
		"nil":             func(int) ([]api.ID, bool) { panic(nil) },
		"a fault":         func(n int) ([]api.ID, bool) { return some(n)[:n+7], true },
	}
	return m
}

// drawing tells the calls that ask for draws, and how many; idle's are their arguments.
func drawing(o on) map[string]int {
	return map[string]int{"AddUser": 1, "Login": 1, "SetPassword": 1, "Authorize": 1, "Exchange": 2, "Renew": 2, "Rotate": 2, "Distrust": 2}
}

// TestP17_3Asks: each call asks once for what it needs; AddClient, of a client with a secret, for one.
func TestP17_3Asks(t *testing.T) {
	for _, kind := range kinds() {
		for n := range writing(on{}) {
			w := begun(t, kind)
			o := w.worked()
			c := writing(o)[n]
			w.drawing(c.what, drawing(o)[c.what], func() { c.do(w.p) })
		}
		w := begun(t, kind)
		c := shop()
		c.ID = "app"
		w.drawing("AddClient", 1, func() { w.addClient(c, "s") })
		wantErrno(t, "Begin", w.p.Begin(sealed+held-kind), api.OK)
		w.drawing("Step", 0, func() { w.p.Step(1) })
		w.drawing("Compact", 0, func() { w.p.Compact() })
	}
}

// TestP17_3Draws: draws that are not told, or are not as many, are ErrIdpDraws: nothing is told or changed, and the provider goes on.
func TestP17_3Draws(t *testing.T) {
	for _, kind := range kinds() {
		w := begun(t, kind)
		o := w.worked()
		calls := append(writing(o), call{"AddClient with a secret", func(p *idp.Provider) (any, api.Errno) {
			c := shop()
			c.ID = "app"
			return only(p.AddClient(c, "s"))
		}})
		for _, c := range calls {
			n := drawing(o)[c.what]
			if c.what == "AddClient with a secret" {
				n = 1
			}
			if n == 0 {
				continue
			}
			for what, answer := range badDraws(n) {
				what = c.what + ", " + what
				w.h.other = answer
				w.drawing(what, n, func() {
					w.doing(what, func() {
						got, e := c.do(w.p)
						wantErrno(t, what, e, api.ErrIdpDraws)
						wantNothing(t, what, got)
					})
				})
			}
			w.h.other = nil
			v := w.copied()
			_, e := c.do(v.p)
			wantErrno(t, c.what+", with draws", e, api.OK)
		}
		w.taken("behind all of them", true, o.i.Access)
	}
}

// TestP17_3Kept: draws are the provider's own once they are told: whoever told them may write to them.
func TestP17_3Kept(t *testing.T) {
	w := begun(t, held)
	var told []api.ID
	w.h.other = func(n int) ([]api.ID, bool) {
		told = w.h.draws(n)
		return told, true
	}
	s := w.session()
	code := w.code(s)
	told[0] = api.ID{}
	i := w.exchange(code)
	told[0], told[1] = api.ID{}, api.ID{}
	w.taken("the token", true, i.Access)
	w.renew(i.Refresh)
}

// TestP17_3Last: a call that is refused for another reason has asked for none.
func TestP17_3Last(t *testing.T) {
	w := begun(t, sealed)
	o := w.worked()
	w.h.asked = nil
	for _, c := range refusals(o) {
		if c.what == "Rotate, wrong" || c.what == "Distrust, wrong" || c.what == "AddUser, wrong" || c.what == "Login, wrong" || c.what == "RemoveUser, wrong" {
			continue // their arguments are right
		}
		c.do(w.p)
	}
	if len(w.h.asked) > 0 {
		t.Errorf("draws: %d", w.h.asked)
	}
}
