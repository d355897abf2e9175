package shift_test

import (
	"math/rand"
	"slices"
	"testing"

	"postern/api"
	"postern/ledger"
	"postern/shift"
	"postern/store"
)

// bend lays one value under a key of a store.
func bend(t *testing.T, s *store.Store, key, value string) {
	t.Helper()
	wantErrno(t, "Commit", s.Commit([]api.Change{{Key: []byte(key), Value: []byte(value)}}), api.OK)
}

// TestP16_5Bad: over a pair that has to be read and is no row t has an error, and nothing is changed; what has not to be read does not matter.
func TestP16_5Bad(t *testing.T) {
	for _, row := range []struct {
		what string
		x    api.Shift
		do   func(x *ledger.Tx)
		read []string
	}{
		{"Begin", api.Shift{From: sealed}, func(x *ledger.Tx) { shift.Begin(x, held) }, []string{shiftKey}},
		{"Begin of the same", api.Shift{From: sealed}, func(x *ledger.Tx) { shift.Begin(x, sealed) }, []string{shiftKey}},
		{"Begin of none", api.Shift{From: sealed}, func(x *ledger.Tx) { shift.Begin(x, 3) }, nil},
		{"Step", on(sealed, held, 0), func(x *ledger.Tx) { shift.Step(x, 1) }, []string{shiftKey, grantKey(1), grantKey(4), grantKey(9), "G", "Gx"}},
		{"Step of 0", on(sealed, held, 0), func(x *ledger.Tx) { shift.Step(x, 0) }, []string{shiftKey}},
		{"Step while none goes on", api.Shift{From: sealed}, func(x *ledger.Tx) { shift.Step(x, 1) }, []string{shiftKey}},
		{"Mints", on(sealed, held, 0), func(x *ledger.Tx) { shift.Mints(x) }, []string{shiftKey}},
	} {
		for _, key := range []string{shiftKey, grantKey(1), grantKey(4), grantKey(9), "G", "Gx", "s0", "t", "n", "k", "r", "c", "S", "H", "R", "F", ""} {
			_, s := laid(t, row.x)
			if key != "" {
				bend(t, s, key, "no row")
			}
			want, before := api.OK, pairsOf(ledger.Begin(s))
			if slices.Contains(row.read, key) {
				want = api.ErrLedgerBad
			}
			x := ledger.Begin(s)
			row.do(x)
			wantErrno(t, row.what+" over "+key+": Err", x.Err(), want)
			wantErrno(t, row.what+" over "+key+": Commit", x.Commit(), want)
			if got := differing(before, pairsOf(ledger.Begin(s))); want != api.OK && len(got) > 0 {
				t.Errorf("%s over %q: %q have changed", row.what, key, got)
			}
		}
	}
}

// TestP16_5BadShift: of a Shift that can't be read nothing is taken for true.
func TestP16_5BadShift(t *testing.T) {
	_, s := laid(t, on(sealed, held, 0))
	bend(t, s, shiftKey, "\x02\x01\x02")
	x := ledger.Begin(s)
	wantErrno(t, "Begin of none", shift.Begin(x, 3), api.ErrEngineKind)
	wantErrno(t, "Err", x.Err(), api.OK)
	moved, ended, e := shift.Step(x, 1)
	wantSame(t, "Step", []any{moved, ended, e}, []any{0, false, api.ErrShiftOff})
	wantErrno(t, "Err", x.Err(), api.ErrLedgerBad)
	x = ledger.Begin(s)
	if got := shift.Mints(x); got != api.EngineNone {
		t.Errorf("Mints is %d", got)
	}
	wantErrno(t, "Err", x.Err(), api.ErrLedgerBad)
}

// TestP16_5BadGrant: a grant that can't be read keeps all others from being moved.
func TestP16_5BadGrant(t *testing.T) {
	for _, key := range []string{grantKey(0), grantKey(2), grantKey(4), grantKey(99)} {
		_, s := laid(t, on(sealed, held, 0))
		bend(t, s, key, "")
		before := pairsOf(ledger.Begin(s))
		x := ledger.Begin(s)
		if moved, _, e := shift.Step(x, 1); moved != 0 || e != api.OK {
			t.Errorf("%q: Step: %d, %d", key, moved, e)
		}
		wantErrno(t, "Commit", x.Commit(), api.ErrLedgerBad)
		if got := differing(before, pairsOf(ledger.Begin(s))); len(got) > 0 {
			t.Errorf("%q: %q have changed", key, got)
		}
	}
}

// TestP16_5Any: every call ends, over whatever pairs, with whatever is handed in.
func TestP16_5Any(t *testing.T) {
	r := rand.New(rand.NewSource(1605))
	numbers := append(append(noKinds(), noBatches()...), 1, 2, 64)
	for range 500 {
		_, s := laid(t, on(r.Intn(3), r.Intn(3), uint64(r.Intn(5))))
		for range 1 + r.Intn(3) {
			key := []string{shiftKey, grantKey(uint64(r.Intn(5))), "G", "Gab"}[r.Intn(4)]
			value, _ := s.Get([]byte(key))
			for range 1 + r.Intn(4) {
				value = append(value, byte(r.Intn(256)))
				value[r.Intn(len(value))] = byte(r.Intn(4))
				value = value[:r.Intn(len(value)+1)]
			}
			bend(t, s, key, string(value))
		}
		x := ledger.Begin(s)
		for range 6 {
			n := numbers[r.Intn(len(numbers))]
			shift.Mints(x)
			if e := shift.Begin(x, n); e == api.OK && n != sealed && n != held {
				t.Fatalf("Begin(%d) is taken", n)
			}
			moved, ended, e := shift.Step(x, n)
			if moved < 0 || moved > 5 || ended && moved > 0 || e != api.OK && (moved > 0 || ended) || e == api.OK && (n < 1 || n > api.MaxGrants) {
				t.Fatalf("Step(%d): %d, %v, %d", n, moved, ended, e)
			}
		}
		want := x.Err()
		wantErrno(t, "Commit", x.Commit(), want)
	}
}
