package shift_test

import (
	"testing"

	"postern/api"
	"postern/ledger"
)

// example tells the examples' ledger.
func example(t *testing.T) *ledger.Tx {
	t.Helper()
	return begun(t, api.Shift{From: sealed}, grant(1, sealed), grant(2, sealed), dead(3, sealed), grant(4, sealed))
}

// TestP16_1Example: the chapter's first example.
func TestP16_1Example(t *testing.T) {
	x := example(t)
	wantRefused(t, "ahead of Begin", x, 1, api.ErrShiftOff)
	wantBegin(t, "the same", x, sealed, api.ErrShiftSame)
	wantBegin(t, "none", x, 3, api.ErrEngineKind)
	wantBegin(t, "the other", x, held, api.OK)
	wantMints(t, "begun", x, held)
	wantBegin(t, "twice", x, sealed, api.ErrShiftOn)
}

// TestP16_2Example: the second and the third one.
func TestP16_2Example(t *testing.T) {
	x := example(t)
	wantBegin(t, "the other", x, held, api.OK)
	wantStep(t, "the first", x, 2, 1, 2)
	wantSame(t, "the Shift", x.Shift(), api.Shift{On: true, From: sealed, To: held, Cursor: 2})
	wantRefused(t, "0", x, 0, api.ErrShiftBatch)
	wantRefused(t, "65", x, 65, api.ErrShiftBatch)
	wantStep(t, "the second", x, 2, 4)
	wantSame(t, "the Shift", x.Shift(), api.Shift{On: true, From: sealed, To: held, Cursor: 4})
	wantStep(t, "the third", x, 2)
	wantSame(t, "the Shift", x.Shift(), api.Shift{From: held, Epoch: 1})
	wantSame(t, "the grants", x.Grants(), []api.Grant{grant(1, held), grant(2, held), dead(3, sealed), grant(4, held)})
}
