package shift_test

import (
	"math/rand"
	"testing"

	"postern/api"
	"postern/ledger"
	"postern/shift"
	"postern/store"
)

// world is a ledger, and a model of it: the grants in no order, the Shift beside them.
type world struct {
	t      *testing.T
	s      *store.Store
	x      *ledger.Tx
	shift  api.Shift
	grants map[uint64]api.Grant
}

func newWorld(t *testing.T, from int) *world {
	t.Helper()
	_, s := started(t)
	w := &world{t: t, s: s, x: ledger.Begin(s), shift: api.Shift{From: from}, grants: map[uint64]api.Grant{}}
	w.x.SetShift(w.shift)
	return w
}

func (w *world) put(g api.Grant) {
	w.x.PutGrant(g)
	w.grants[g.N] = g
}

// left tells the number of the least grant that has still to go; 0: none.
func (w *world) left() uint64 {
	least := uint64(0)
	for n, g := range w.grants {
		if g.Live && g.Engine == w.shift.From && n > w.shift.Cursor && (least == 0 || n < least) {
			least = n
		}
	}
	return least
}

func (w *world) begin(to int) api.Errno {
	switch {
	case to < sealed || to > held:
		return api.ErrEngineKind
	case w.shift.On:
		return api.ErrShiftOn
	case to == w.shift.From:
		return api.ErrShiftSame
	}
	w.shift = api.Shift{On: true, From: w.shift.From, To: to, Epoch: w.shift.Epoch}
	return api.OK
}

// answer is what Step tells.
type answer struct {
	moved int
	ended bool
	e     api.Errno
}

func (w *world) step(n int) answer {
	if !w.shift.On {
		return answer{e: api.ErrShiftOff}
	}
	if n <= 0 || n >= api.MaxGrants+1 {
		return answer{e: api.ErrShiftBatch}
	}
	moved := 0
	for ; moved < n && w.left() > 0; moved++ {
		g := w.grants[w.left()]
		w.shift.Cursor = g.N
		g.Engine = w.shift.To
		w.grants[g.N] = g
	}
	if moved > 0 {
		return answer{moved: moved}
	}
	w.shift = api.Shift{From: w.shift.To, Epoch: w.shift.Epoch + 1}
	return answer{ended: true}
}

// wantStepped asks that Step answers as the model.
func (w *world) wantStepped(n int) answer {
	w.t.Helper()
	var got answer
	got.moved, got.ended, got.e = shift.Step(w.x, n)
	want := w.step(n)
	wantSame(w.t, "Step", got, want)
	return want
}

// want asks that the ledger is as the model.
func (w *world) want(what string) {
	w.t.Helper()
	wantSame(w.t, what+": the Shift", w.x.Shift(), w.shift)
	l := w.x.Grants()
	if len(l) != len(w.grants) {
		w.t.Fatalf("%s: %d grants, not %d", what, len(l), len(w.grants))
	}
	for _, g := range l {
		wantSame(w.t, what, g, w.grants[g.N])
	}
	wantErrno(w.t, what+": Err", w.x.Err(), api.OK)
}

// wantNone asks that no live grant with a number is the engine's.
func (w *world) wantNone(what string, engine int) {
	w.t.Helper()
	for _, g := range w.x.Grants() {
		if g.Live && g.Engine == engine {
			w.t.Errorf("%s: grant %d is %d's", what, g.N, engine)
		}
	}
}

// lay lays grants of both engines, live and dead ones; it tells how many live ones are the engine's.
func (w *world) lay(r *rand.Rand, size, engine int) int {
	live, n := 0, uint64(0)
	for range size {
		n += 1 + uint64(r.Intn(3))*uint64(r.Intn(200))
		g := grant(n, kinds()[r.Intn(2)])
		g.Live = r.Intn(4) > 0
		if g.Live && g.Engine == engine {
			live++
		}
		w.put(g)
	}
	return live
}

// TestP16_4Steps: behind at most as many steps as the promise says no live grant is the old engine's, and the next one ends it.
func TestP16_4Steps(t *testing.T) {
	r := rand.New(rand.NewSource(1604))
	for round := range 300 {
		from := kinds()[round%2]
		to, n := other(from), 1+r.Intn(api.MaxGrants)
		if round%3 > 0 {
			n = 1 + r.Intn(5)
		}
		w := newWorld(t, from)
		live := w.lay(r, r.Intn(70), from)
		wantErrno(t, "Begin", shift.Begin(w.x, to), w.begin(to))
		for range (live + n - 1) / n {
			wantMints(t, "amid it", w.x, to)
			if w.wantStepped(n).ended {
				t.Fatal("it has ended too early")
			}
			w.want("amid it")
		}
		w.wantNone("moved", from)
		wantMints(t, "moved", w.x, to)
		wantSame(t, "the last Step", w.wantStepped(n), answer{ended: true})
		wantMints(t, "ended", w.x, to)
		w.wantNone("ended", from)
		w.want("ended")
	}
}

// TestP16_4Meanwhile: so it is with grants that are made, die and go meanwhile, none of them the old engine's, and with batches of any size; the bound is that of the smallest.
func TestP16_4Meanwhile(t *testing.T) {
	r := rand.New(rand.NewSource(16041))
	for round := range 200 {
		from := kinds()[round%2]
		to, least := other(from), 1+r.Intn(4)
		w := newWorld(t, from)
		live := w.lay(r, r.Intn(40), from)
		wantErrno(t, "Begin", shift.Begin(w.x, to), w.begin(to))
		next := uint64(1 << 20)
		for range (live + least - 1) / least {
			w.wantStepped(least + r.Intn(3))
			if !w.shift.On {
				break
			}
			w.put(grant(next, shift.Mints(w.x)))
			next++
			for n, g := range w.grants {
				if r.Intn(30) == 0 {
					g.Live = false
					w.put(g)
				}
				if r.Intn(30) == 0 {
					w.x.DropGrant(n)
					delete(w.grants, n)
				}
			}
		}
		w.wantNone("moved", from)
		if w.shift.On {
			wantSame(t, "the last Step", w.wantStepped(least), answer{ended: true})
		}
		wantMints(t, "ended", w.x, to)
		w.want("ended")
	}
}

// TestP16_4Walk: many calls, right and wrong ones, grants changed between, the transaction committed or dropped now and then, held against the model.
func TestP16_4Walk(t *testing.T) {
	r := rand.New(rand.NewSource(16042))
	for range 60 {
		w := newWorld(t, kinds()[r.Intn(2)])
		w.lay(r, 20, sealed)
		for range 60 {
			switch r.Intn(8) {
			case 0:
				to := r.Intn(5) - 1
				wantErrno(t, "Begin", shift.Begin(w.x, to), w.begin(to))
			case 1, 2, 3, 4:
				w.wantStepped([]int{-1, 0, 1, 2, 3, 64, 65}[r.Intn(7)])
			case 5:
				g := grant(uint64(r.Intn(300)), r.Intn(4))
				g.Live = r.Intn(4) > 0
				w.put(g)
			case 6:
				w.commit()
			case 7:
				w.undone(r)
			}
			want := w.shift.From
			if w.shift.On {
				want = w.shift.To
			}
			wantMints(t, "the walk", w.x, want)
			w.want("the walk")
		}
	}
}

func (w *world) commit() {
	wantErrno(w.t, "Commit", w.x.Commit(), api.OK)
	w.x = ledger.Begin(w.s)
}

// undone does what a transaction that is dropped leaves no trace of.
func (w *world) undone(r *rand.Rand) {
	w.commit()
	shift.Begin(w.x, kinds()[r.Intn(2)])
	shift.Step(w.x, 1+r.Intn(64))
	w.x.Drop()
	w.x = ledger.Begin(w.s)
}
