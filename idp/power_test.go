package idp_test

import (
	"fmt"
	"maps"
	"math/rand"
	"testing"

	"postern/api"
	"postern/idp"
)

// rows tells all pairs that stand on the disk.
func (w *world) pairs() map[string]string { return pairsOf(w.ledger()) }

// reopened has the power on again, and opens the disk; now and then the power goes in Open, too.
func (r *runner) reopened(rnd *rand.Rand) {
	r.t.Helper()
	for {
		r.d.On()
		if rnd.Intn(3) == 0 {
			r.d.Arm(1+rnd.Intn(2), rnd.Intn(3))
		}
		p, e := idp.Open(r.d, r.c, r.h)
		r.d.Arm(0, 0)
		if e == api.OK {
			r.p = p
			return
		}
		if p != nil || e != api.ErrIdpOff || !r.d.Off() {
			r.t.Fatalf("Open: %d", e)
		}
	}
}

// TestP17_Power: whatever write of whatever call the power goes at, and however much of it is kept, what Open finds is as behind the calls that had ended, or behind the one in flight, too (W4).
func TestP17_Power(t *testing.T) {
	kept, done := 0, 0
	for seed := range int64(30) {
		rnd := rand.New(rand.NewSource(1740 + seed))
		c := config(kinds()[seed%2])
		c.Access, c.Refresh, c.Code, c.Session = int64(5+rnd.Intn(20)), int64(5+rnd.Intn(60)), int64(5+rnd.Intn(30)), int64(5+rnd.Intn(60))
		r, s := newRunner(t, c), newScript(rnd)
		ops := []op{{what: "user", a: []string{"ann", "pw"}}, {what: "user", a: []string{"bob", "pw"}}}
		for _, id := range []string{"shop", "more", "app"} {
			ops = append(ops, op{what: "client", a: []string{id, secretFor(id)}, l: []string{"a", "b"}})
		}
		for n := range 150 {
			o := s.next()
			if n < len(ops) {
				o = ops[n]
			}
			if rnd.Intn(4) == 0 {
				r.migrate(rnd)
			}
			before := r.pairs()
			twin := &runner{world: r.copied(), tokens: append([]string{}, r.tokens...)}
			want := twin.do(o)
			if rnd.Intn(3) > 0 || n < len(ops) {
				if got := r.do(o); got != want {
					t.Fatalf("%+v: %s, not %s", o, got, want)
				}
				s.heard(o, want)
				continue
			}
			r.d.Arm(1+rnd.Intn(2)*rnd.Intn(3), rnd.Intn(2)*rnd.Intn(1500))
			got := r.do(o)
			if !r.d.Off() {
				r.d.Arm(0, 0)
				if got != want {
					t.Fatalf("%+v: %s, not %s", o, got, want)
				}
				s.heard(o, want)
				continue
			}
			if got != none(api.ErrIdpOff) {
				t.Fatalf("%+v, torn: %s", o, got)
			}
			r.reopened(rnd)
			after := r.pairs()
			switch {
			case maps.Equal(after, before):
				kept++
			case maps.Equal(after, twin.pairs()):
				done++
			default:
				t.Fatalf("seed %d, %d: %+v: the rows are neither as they were nor as they were to be", seed, n, o)
			}
			wantAsFresh(t, fmt.Sprintf("seed %d, %d", seed, n), r)
		}
	}
	if kept < 50 || done < 50 {
		t.Errorf("%d calls were kept, %d were done", kept, done)
	}
}

// wantAsFresh asks that a provider tells what one over a copy of its disk tells.
func wantAsFresh(t *testing.T, what string, r *runner) {
	t.Helper()
	v := r.copied()
	wantSame(t, what, r.all(), v.all())
	for n, token := range r.tokens {
		c, is, e := r.p.Find(token)
		d, was, f := v.p.Find(token)
		if is != was || e != f || lineOf(c) != lineOf(d) {
			t.Errorf("%s: token %d: %v, not %v", what, n, is, was)
		}
	}
}

// TestP17_PowerEach: each keep of the one write of each call.
func TestP17_PowerEach(t *testing.T) {
	for _, kind := range kinds() {
		for n := range writing(on{}) {
			w := begun(t, kind)
			o := w.worked()
			c := writing(o)[n]
			before, v := w.pairs(), w.copied()
			size := logSize(v)
			c.do(v.p)
			after := v.pairs()
			form := logSize(v) - size
			for keep := range form + 2 {
				if keep > 40 && keep < form-40 && keep%16 != 0 {
					continue
				}
				v := w.copied()
				v.d.Arm(1, keep)
				_, e := c.do(v.p)
				wantErrno(t, c.what, e, api.ErrIdpOff)
				v.d.On()
				v.open()
				want := before
				if keep >= form {
					want = after
				}
				if !maps.Equal(v.pairs(), want) {
					t.Errorf("%s, %d of %d bytes kept: the rows are others", c.what, keep, form)
				}
			}
		}
	}
}

// logSize tells how many bytes the disk's files have.
func logSize(w *world) int {
	n := 0
	for _, f := range w.d.Files() {
		n += len(f.Bytes)
	}
	return n
}
