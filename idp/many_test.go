package idp_test

import (
	"slices"
	"sync"
	"testing"

	"postern/api"
)

// TestP17_4Many: several goroutines at a time: each call as if it were alone.
func TestP17_4Many(t *testing.T) {
	for _, kind := range kinds() {
		w := peopled(t, changed(func(c *api.Config) { c.Engine, c.Access, c.Code, c.Session = kind, 1<<20, 1<<20, 1<<20 }))
		s := w.session()
		var codes []string
		for range 24 {
			codes = append(codes, w.code(s))
		}
		version := w.version()
		var wait sync.WaitGroup
		tokens := make([][]string, 8)
		for n := range tokens {
			wait.Go(func() {
				for k := range 3 {
					i := w.exchange(codes[3*n+k])
					r := w.renew(i.Refresh)
					w.taken("its own", true, i.Access, r.Access)
					wantErrno(t, "Revoke", w.p.Revoke("shop", "s", i.Access), api.OK)
					w.taken("revoked", false, i.Access)
					w.tick(1)
					tokens[n] = append(tokens[n], r.Access)
				}
			})
		}
		wait.Wait()
		st := w.state()
		if st.Clock != 24 || st.Next != 25 || len(st.Grants) != 24 || w.version() != version+24*4 {
			t.Errorf("clock %d, next %d, %d grants, %d batches", st.Clock, st.Next, len(st.Grants), w.version()-version)
		}
		w.taken("all of them", true, slices.Concat(tokens...)...)
		all := w.all()
		w.open()
		wantSame(t, "opened", w.all(), all)
	}
}

// TestP17_4Once: of many that hand in one code just one gets tokens.
func TestP17_4Once(t *testing.T) {
	for _, kind := range kinds() {
		for range 5 {
			w := begun(t, kind)
			code := w.code(w.session())
			var wait sync.WaitGroup
			told := make([]api.Errno, 8)
			for n := range told {
				wait.Go(func() { _, told[n] = w.p.Exchange("shop", "s", code, "x", "") })
			}
			wait.Wait()
			slices.Sort(told)
			wantSame(t, "the answers", told, append([]api.Errno{api.OK}, slices.Repeat([]api.Errno{api.ErrIdpGrant}, 7)...))
			g := w.grant(1)
			if g.N != 1 || g.Live || w.state().Next != 2 {
				t.Errorf("the grant: %+v", g)
			}
		}
	}
}

// TestP17_4Panics: draws that panic in one goroutine leave the provider to the others.
func TestP17_4Panics(t *testing.T) {
	w := begun(t, sealed)
	w.h.other = func(int) ([]api.ID, bool) { panic("no draws") }
	var wait sync.WaitGroup
	for range 8 {
		wait.Go(func() {
			_, e := w.p.Login("ann", "pw")
			wantErrno(t, "Login", e, api.ErrIdpDraws)
			_, e = w.p.Version()
			wantErrno(t, "Version", e, api.OK)
		})
	}
	wait.Wait()
	w.h.other = nil
	w.login("ann")
}
