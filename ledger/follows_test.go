package ledger_test

import (
	"maps"
	"math/rand"
	"reflect"
	"testing"

	"postern/api"
	"postern/ledger"
	"postern/store"
)

// walk is a transaction beside its model, over a store beside its own.
type walk struct {
	t         *testing.T
	r         *rand.Rand
	s         *store.Store
	x         *ledger.Tx
	committed model
	seen      model
}

// TestP13_8Walk: transactions one behind the other, as a model of rows by their keys: what was committed each later one reads, what was not, none.
func TestP13_8Walk(t *testing.T) {
	r := rand.New(rand.NewSource(138))
	for range 60 {
		_, s := started(t, api.Limits{Pairs: 1 << 10, Weight: 1 << 20, Log: r.Intn(4000)})
		w := &walk{t: t, r: r, s: s, committed: model{}}
		w.begin()
		for range 100 {
			w.step()
			w.compare()
		}
	}
}

func (w *walk) begin() { w.x, w.seen = ledger.Begin(w.s), maps.Clone(w.committed) }

func (w *walk) step() {
	w.t.Helper()
	row := w.seen.any(w.r)
	switch n := w.r.Intn(20); {
	case n < 10:
		put(w.x, row)
		w.seen.put(row)
	case n < 15:
		if !alone(row) {
			wantBool(w.t, "Drop", drop(w.x, row), w.seen.drop(row))
		}
	case n < 16:
		wantInt(w.t, "Expire", w.x.Expire(), w.seen.expire())
	case n < 18:
		wantErrno(w.t, "Commit", w.x.Commit(), api.OK)
		w.committed = w.seen
		w.begin()
	case n < 19:
		w.x.Drop()
		w.begin()
	case w.r.Intn(2) == 0:
		w.x.PutGrant(api.Grant{Engine: -1})
		wantErrno(w.t, "a wrong one", w.x.Commit(), api.ErrLedgerRow)
		w.begin()
	}
}

// compare holds all that is told against the model.
func (w *walk) compare() {
	w.t.Helper()
	row := w.seen.any(w.r)
	got, there := get(w.x, row)
	want, is := w.seen.get(row)
	wantSame(w.t, "get", got, want)
	wantBool(w.t, "get", there, is)
	if letter := keyOf(row)[0]; !alone(row) {
		wantSame(w.t, "list", list(w.x, row), w.seen.list(letter))
	}
	if got := pairsOf(w.x.Range(nil)); got != w.seen.pairs() {
		w.t.Errorf("sees %.300s, not %.300s", got, w.seen.pairs())
	}
	if storeOf(w.s) != w.committed.pairs() {
		w.t.Errorf("the store has %.300s, not %.300s", storeOf(w.s), w.committed.pairs())
	}
	wantBool(w.t, "Rows", w.x.Rows(), true)
	wantErrno(w.t, "Err", w.x.Err(), api.OK)
	wantSame(w.t, "State", w.x.State(), w.seen.state())
}

// state tells the model's State.
func (m model) state() api.State {
	var s api.State
	now, _ := m.get(clock(0))
	count, _ := m.get(next(0))
	shift, _ := m.get(api.Shift{})
	s.Clock, s.Next, s.Shift = int64(now.(clock)), uint64(count.(next)), shift.(api.Shift)
	into := reflect.ValueOf(&s).Elem()
	for letter, name := range map[byte]string{'U': "Users", 'C': "Clients", 'O': "Consents", 'S': "Sessions", 'D': "Codes", 'G': "Grants", 'R': "Refreshes"} {
		l := into.FieldByName(name)
		for _, row := range m.list(letter) {
			l.Set(reflect.Append(l, reflect.ValueOf(row)))
		}
	}
	return s
}

// TestP13_8Same: two ledgers with the same rows have the same pairs, whichever way they came by them.
func TestP13_8Same(t *testing.T) {
	r := rand.New(rand.NewSource(1388))
	for range 100 {
		m := model{}
		for range 20 {
			m.put(m.any(r))
		}
		_, s := started(t, wide, samples()...)
		_, other := started(t, wide)
		x, y := ledger.Begin(s), ledger.Begin(other)
		for _, row := range samples() {
			if !alone(row) {
				drop(x, row)
			} else if _, there := m[keyOf(row)]; !there {
				put(y, row)
			}
		}
		for _, row := range m {
			put(x, row)
		}
		for _, row := range m {
			put(y, changed(changable(row)))
			put(y, row)
		}
		wantErrno(t, "Commit", x.Commit(), api.OK)
		wantErrno(t, "Commit of the other", y.Commit(), api.OK)
		if storeOf(s) != storeOf(other) {
			t.Errorf("%.300s, and %.300s", storeOf(s), storeOf(other))
		}
	}
}

// changable tells a row that changed takes: a ring and a list have one to lose.
func changable(row any) any {
	switch row.(type) {
	case api.Ring, revoked:
		return sampleOf(row)
	}
	return row
}

// TestP13_8Again: what stands behind an Open of the same disk is what was committed.
func TestP13_8Again(t *testing.T) {
	d, s := started(t, wide)
	x := ledger.Begin(s)
	for _, row := range append(samples(), edges()...) {
		put(x, row)
	}
	wantErrno(t, "Commit", x.Commit(), api.OK)
	wantErrno(t, "Compact", s.Compact(), api.OK)
	anew, e := store.Open(d, wide)
	wantErrno(t, "Open", e, api.OK)
	x = ledger.Begin(anew)
	wantBool(t, "Rows", x.Rows(), true)
	for _, row := range samples() {
		if !alone(row) {
			wantRow(t, "opened again", x, row)
		}
	}
}
