package shift_test

import (
	"math"
	"slices"
	"testing"

	"postern/api"
	"postern/ledger"
)

// TestP16_2Off: no Step while no migration goes on, whatever else is wrong.
func TestP16_2Off(t *testing.T) {
	for _, x := range shifts() {
		if x.On {
			continue
		}
		for _, n := range append(noBatches(), 1, 2, api.MaxGrants) {
			wantRefused(t, lineOf(x), begun(t, x, grant(1, x.From), grant(2, x.From)), n, api.ErrShiftOff)
		}
	}
	_, s := started(t)
	wantRefused(t, "an empty ledger", ledger.Begin(s), 1, api.ErrShiftOff)
	wantRefused(t, "an empty ledger", ledger.Begin(s), 0, api.ErrShiftOff)
}

// TestP16_2Batch: a batch that may not be, with grants that would go, and without.
func TestP16_2Batch(t *testing.T) {
	for _, x := range shifts() {
		if !x.On {
			continue
		}
		for _, n := range noBatches() {
			wantRefused(t, lineOf(x), begun(t, x, grant(2, x.From), grant(9, x.From)), n, api.ErrShiftBatch)
			wantRefused(t, lineOf(x), begun(t, x), n, api.ErrShiftBatch)
		}
	}
}

// TestP16_2Sizes: each batch that may be, over each number of grants around it.
func TestP16_2Sizes(t *testing.T) {
	for n := 1; n <= api.MaxGrants; n++ {
		for _, size := range []int{0, 1, n - 1, n, n + 1, 2 * n, 70} {
			x := begun(t, on(sealed, held, 0), grants(size, sealed)...)
			var numbers []uint64
			for i := range min(n, size) {
				numbers = append(numbers, uint64(i+1))
			}
			wantStep(t, "the first", x, n, numbers...)
		}
	}
}

// TestP16_2Which: only grants that are live, of the engine that is gone from, and behind the cursor go; a batch is not filled up by others.
func TestP16_2Which(t *testing.T) {
	for _, kind := range kinds() {
		all := []api.Grant{grant(1, kind), dead(2, kind), grant(3, other(kind)), grant(4, kind), grant(5, 0), grant(6, 3), grant(7, 255), dead(8, other(kind)), grant(9, kind), grant(10, kind)}
		for _, row := range []struct {
			cursor uint64
			n      int
			want   []uint64
		}{
			{0, 1, []uint64{1}},
			{0, 2, []uint64{1, 4}},
			{0, 3, []uint64{1, 4, 9}},
			{0, 4, []uint64{1, 4, 9, 10}},
			{0, 64, []uint64{1, 4, 9, 10}},
			{1, 1, []uint64{4}},
			{1, 2, []uint64{4, 9}},
			{2, 64, []uint64{4, 9, 10}},
			{3, 1, []uint64{4}},
			{4, 1, []uint64{9}},
			{8, 1, []uint64{9}},
			{9, 1, []uint64{10}},
			{9, 2, []uint64{10}},
			{10, 1, nil},
			{11, 64, nil},
			{math.MaxUint64, 64, nil},
		} {
			wantStep(t, lineOf(row), begun(t, on(kind, other(kind), row.cursor), all...), row.n, row.want...)
		}
	}
}

// TestP16_2Numbers: by their numbers as numbers, to their greatest; number 0 is never above a cursor.
func TestP16_2Numbers(t *testing.T) {
	numbers := []uint64{0, 1, 2, 127, 128, 255, 256, 1<<16 - 1, 1 << 16, 1<<31 + 5, 1 << 32, math.MaxInt64, 1 << 63, math.MaxUint64 - 1, math.MaxUint64}
	var l []api.Grant
	for _, n := range numbers {
		l = append(l, grant(n, sealed))
	}
	slices.Reverse(l)
	for at, cursor := range numbers {
		for _, n := range []int{1, 3, 64} {
			x := begun(t, on(sealed, held, cursor), l...)
			wantStep(t, lineOf(cursor), x, n, numbers[at+1:min(at+1+n, len(numbers))]...)
		}
	}
	x := begun(t, on(sealed, held, 0), grant(0, sealed))
	wantStep(t, "number 0", x, 64)
	if g, _ := x.Grant(0); g.Engine != sealed {
		t.Errorf("grant 0 is %d's", g.Engine)
	}
}

// TestP16_2End: a step that finds none ends it; the epoch goes round behind its greatest.
func TestP16_2End(t *testing.T) {
	for _, x := range shifts() {
		if !x.On {
			continue
		}
		for _, epoch := range []uint64{0, 1, math.MaxInt64, math.MaxUint64 - 1, math.MaxUint64} {
			x.Epoch = epoch
			tx := begun(t, x, dead(1, x.From), dead(9, x.From), grant(0, x.From))
			wantStep(t, lineOf(x), tx, 1)
			wantSame(t, "the Shift", tx.Shift(), api.Shift{From: x.To, Epoch: epoch + 1})
			wantRefused(t, "ended", tx, 1, api.ErrShiftOff)
			wantMints(t, "ended", tx, x.To)
		}
	}
}

// TestP16_2Last: one that moves fewer than n has not ended it, though no grant is left.
func TestP16_2Last(t *testing.T) {
	x := begun(t, on(held, sealed, 0), grants(5, held)...)
	wantStep(t, "the first", x, 3, 1, 2, 3)
	wantStep(t, "the second", x, 3, 4, 5)
	wantSame(t, "the Shift", x.Shift(), on(held, sealed, 5))
	wantStep(t, "the third", x, 3)
	x = begun(t, on(held, sealed, 0), grants(6, held)...)
	wantStep(t, "the first", x, 3, 1, 2, 3)
	wantStep(t, "the second", x, 3, 4, 5, 6)
	wantSame(t, "the Shift", x.Shift(), on(held, sealed, 6))
	wantStep(t, "the third", x, 3)
}

// TestP16_2Ways: from any engine's number to any, one that is none's or the same one too.
func TestP16_2Ways(t *testing.T) {
	for _, x := range shifts() {
		if !x.On {
			continue
		}
		var want []uint64
		for _, n := range []uint64{1, 2, 6, 8} {
			if n > x.Cursor && len(want) < 2 {
				want = append(want, n)
			}
		}
		tx := begun(t, x, grant(1, x.From), grant(2, x.From), dead(3, x.From), dead(5, x.To), grant(6, x.From), grant(7, 77), grant(8, x.From))
		wantStep(t, lineOf(x), tx, 2, want...)
	}
}

// TestP16_2Meanwhile: what t has changed is what is read: grants that were put, dropped, killed or given back between steps.
func TestP16_2Meanwhile(t *testing.T) {
	x := begun(t, api.Shift{From: sealed}, grants(6, sealed)...)
	wantBegin(t, "Begin", x, held, api.OK)
	wantStep(t, "the first", x, 2, 1, 2)
	x.PutGrant(grant(2, sealed)) // given back behind the cursor: it does not go any more
	x.DropGrant(3)
	x.PutGrant(dead(4, sealed))
	x.PutGrant(grant(7, held))
	x.PutGrant(grant(8, sealed))
	wantStep(t, "the second", x, 2, 5, 6)
	x.PutGrant(grant(5, sealed))
	x.PutGrant(grant(4, sealed))
	wantStep(t, "the third", x, 2, 8)
	wantStep(t, "the last", x, 2)
	for n, engine := range map[uint64]int{1: held, 2: sealed, 4: sealed, 5: sealed, 6: held, 7: held, 8: held} {
		g, _ := x.Grant(n)
		wantSame(t, "grant", g, grant(n, engine))
	}
	wantBegin(t, "back", x, sealed, api.OK)
	wantStep(t, "back", x, 64, 1, 6, 7, 8)
}
