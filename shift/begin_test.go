package shift_test

import (
	"math"
	"testing"

	"postern/api"
	"postern/ledger"
	"postern/shift"
)

// shifts tells how far a migration may have come, whatever has laid that down.
func shifts() []api.Shift {
	var l []api.Shift
	for _, on := range []bool{false, true} {
		for _, from := range []int{api.EngineNone, sealed, held, 3, 255} {
			for _, to := range []int{api.EngineNone, sealed, held, 3, 255} {
				for _, n := range []uint64{0, 1, 5, math.MaxUint64} {
					l = append(l, api.Shift{On: on, From: from, To: to, Cursor: n, Epoch: n ^ 3})
				}
			}
		}
	}
	return l
}

// TestP16_1Begin: the first fault that applies, over every Shift; else it goes on towards to, from the first grant on.
func TestP16_1Begin(t *testing.T) {
	for _, x := range shifts() {
		for _, to := range append(noKinds(), kinds()...) {
			want := api.OK
			switch {
			case to != sealed && to != held:
				want = api.ErrEngineKind
			case x.On:
				want = api.ErrShiftOn
			case to == x.From:
				want = api.ErrShiftSame
			}
			wantBegin(t, lineOf(x), begun(t, x, grant(1, sealed), grant(2, held), dead(3, x.From)), to, want)
		}
	}
}

// TestP16_1Nothing: of a ledger without a Shift either engine can be the one that is gone to.
func TestP16_1Nothing(t *testing.T) {
	for _, to := range kinds() {
		_, s := started(t)
		x := ledger.Begin(s)
		wantBegin(t, "an empty ledger", x, to, api.OK)
		wantSame(t, "the Shift", x.Shift(), api.Shift{On: true, To: to})
		wantMints(t, "an empty ledger", x, to)
		wantStep(t, "an empty ledger", x, 1)
		wantMints(t, "ended", x, to)
	}
}

// TestP16_1Again: behind a migration's end the next one goes back, from the first grant on; the epoch is kept.
func TestP16_1Again(t *testing.T) {
	for _, kind := range kinds() {
		x := begun(t, api.Shift{From: kind}, grants(3, kind)...)
		for epoch := range uint64(5) {
			wantBegin(t, "the same", x, kind, api.ErrShiftSame)
			wantBegin(t, "the other", x, other(kind), api.OK)
			wantSame(t, "the Shift", x.Shift(), api.Shift{On: true, From: kind, To: other(kind), Epoch: epoch})
			wantBegin(t, "once more", x, other(kind), api.ErrShiftOn)
			wantBegin(t, "back", x, kind, api.ErrShiftOn)
			wantStep(t, "the first", x, 2, 1, 2)
			wantBegin(t, "amid it", x, other(kind), api.ErrShiftOn)
			wantBegin(t, "amid it", x, 0, api.ErrEngineKind)
			wantStep(t, "the second", x, 2, 3)
			wantBegin(t, "amid it", x, kind, api.ErrShiftOn)
			wantStep(t, "the last", x, 2)
			wantSame(t, "the Shift", x.Shift(), api.Shift{From: other(kind), Epoch: epoch + 1})
			kind = other(kind)
		}
	}
}

// TestP16_3Mints: the engine that is gone to, if a migration goes on; else the one that it goes from; whatever these are.
func TestP16_3Mints(t *testing.T) {
	for _, x := range shifts() {
		want := x.From
		if x.On {
			want = x.To
		}
		wantMints(t, lineOf(x), begun(t, x, grant(1, sealed), grant(2, held)), want)
	}
	_, s := started(t)
	wantMints(t, "an empty ledger", ledger.Begin(s), api.EngineNone)
}

// TestP16_3Course: through a whole migration.
func TestP16_3Course(t *testing.T) {
	for _, kind := range kinds() {
		x := begun(t, api.Shift{From: kind}, grants(2, kind)...)
		wantMints(t, "ahead of Begin", x, kind)
		shift.Begin(x, 3)
		shift.Begin(x, kind)
		wantMints(t, "behind refused ones", x, kind)
		wantBegin(t, "Begin", x, other(kind), api.OK)
		wantMints(t, "behind Begin", x, other(kind))
		for range 2 {
			shift.Step(x, 1)
			wantMints(t, "behind a Step", x, other(kind))
		}
		wantStep(t, "the last", x, 1)
		wantMints(t, "ended", x, other(kind))
	}
}
