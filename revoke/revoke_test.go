package revoke_test

import (
	"math/rand"
	"slices"
	"testing"

	"postern/api"
	"postern/revoke"
)

func TestP14_1Check(t *testing.T) {
	for what, l := range goodLists() {
		if e := revoke.Check(l); e != api.OK || !isList(l) {
			t.Errorf("%s: %d", what, e)
		}
	}
	for what, l := range noLists() {
		if e := revoke.Check(l); e != api.ErrRevokeForm || isList(l) {
			t.Errorf("%s: %d", what, e)
		}
	}
	if api.ErrRevokeForm != 140 {
		t.Errorf("the error is %d", api.ErrRevokeForm)
	}
}

// TestP14_1Pairs: all rows of two and three entries that are made of few parts.
func TestP14_1Pairs(t *testing.T) {
	var parts []api.Revoked
	for _, all := range []bool{false, true} {
		for _, grant := range []uint64{1, 2, top} {
			for _, id := range []api.ID{none, low, a} {
				parts = append(parts, api.Revoked{Whole: all, Grant: grant, ID: id, Exp: 5})
			}
		}
	}
	for _, x := range parts {
		wantForm(t, list(x))
		for _, y := range parts {
			wantForm(t, list(x, y))
			for _, z := range parts {
				wantForm(t, list(x, y, z))
			}
		}
	}
}

func wantForm(t *testing.T, l []api.Revoked) {
	t.Helper()
	want := api.OK
	if !isList(l) {
		want = api.ErrRevokeForm
	}
	if e := revoke.Check(l); e != want {
		t.Fatalf("%v: %d, not %d", l, e, want)
	}
}

// TestP14_1Shaken: lists of which two entries have changed places, or one was laid again.
func TestP14_1Shaken(t *testing.T) {
	r := rand.New(rand.NewSource(1))
	for range 3000 {
		l := shaken(r, 20)
		wantForm(t, l)
		if len(l) == 0 {
			continue
		}
		i, j := r.Intn(len(l)), r.Intn(len(l))
		swapped := slices.Clone(l)
		swapped[i], swapped[j] = swapped[j], swapped[i]
		wantForm(t, swapped)
		wantForm(t, slices.Insert(slices.Clone(l), i, l[j]))
		swapped[i].Whole = !swapped[i].Whole
		wantForm(t, swapped)
	}
}

func TestP14_2Add(t *testing.T) {
	both := list(token(7, a, 40), token(7, b, 50))
	for _, c := range []struct {
		what  string
		l     []api.Revoked
		grant uint64
		id    api.ID
		exp   int64
		want  []api.Revoked
	}{
		{"to none", nil, 7, b, 50, list(token(7, b, 50))},
		{"to an empty one", list(), 7, b, 50, list(token(7, b, 50))},
		{"zeros", nil, 0, none, 0, list(token(0, none, 0))},
		{"ahead by its ID", list(token(7, b, 50)), 7, a, 40, both},
		{"behind by its ID", list(token(7, a, 40)), 7, b, 50, both},
		{"between by its ID", both, 7, a2, 1, list(token(7, a, 40), token(7, a2, 1), token(7, b, 50))},
		{"a zero ID", both, 7, none, 9, list(token(7, none, 9), token(7, a, 40), token(7, b, 50))},
		{"the last ID", both, 7, high, 9, list(token(7, a, 40), token(7, b, 50), token(7, high, 9))},
		{"less", both, 7, a, 30, both},
		{"as much", both, 7, a, 40, both},
		{"more", both, 7, a, 60, list(token(7, a, 60), token(7, b, 50))},
		{"more by one, behind", both, 7, b, 51, list(token(7, a, 40), token(7, b, 51))},
		{"below 0, of what is there", list(token(7, a, first)), 7, a, -5, list(token(7, a, -5))},
		{"below 0, of what is not", nil, 7, a, first, list(token(7, a, first))},
		{"the greatest time", both, 7, a, last, list(token(7, a, last), token(7, b, 50))},
		{"the same ID of a grant ahead", both, 6, b, 9, list(token(6, b, 9), token(7, a, 40), token(7, b, 50))},
		{"the same ID of a grant behind", both, 8, a, 9, list(token(7, a, 40), token(7, b, 50), token(8, a, 9))},
		{"the first grant", both, 0, high, 9, list(token(0, high, 9), token(7, a, 40), token(7, b, 50))},
		{"the last grant", both, top, none, 9, list(token(7, a, 40), token(7, b, 50), token(top, none, 9))},
		{"a whole grant's", list(whole(7, 55)), 7, a, 90, list(whole(7, 55))},
		{"a whole grant's, a zero ID", list(whole(7, 55)), 7, none, 90, list(whole(7, 55))},
		{"beside a whole grant", list(whole(7, 55)), 8, a, 90, list(whole(7, 55), token(8, a, 90))},
		{"ahead of a whole grant", list(whole(7, 55)), 6, none, 90, list(token(6, none, 90), whole(7, 55))},
		{"between whole grants", list(whole(6, 1), whole(8, 2)), 7, a, 3, list(whole(6, 1), token(7, a, 3), whole(8, 2))},
	} {
		wantList(t, c.what, revoke.Add(c.l, c.grant, c.id, c.exp), c.want)
	}
}

func TestP14_3Kill(t *testing.T) {
	three := list(token(6, b, 60), token(7, a, 40), token(7, b, 50), token(8, none, 70))
	for _, c := range []struct {
		what  string
		l     []api.Revoked
		grant uint64
		exp   int64
		want  []api.Revoked
	}{
		{"of none", nil, 7, 55, list(whole(7, 55))},
		{"of an empty one", list(), 0, 0, list(whole(0, 0))},
		{"of its tokens", three, 7, 55, list(token(6, b, 60), whole(7, 55), token(8, none, 70))},
		{"its tokens are of later times", three, 7, 1, list(token(6, b, 60), whole(7, 1), token(8, none, 70))},
		{"the first grant", three, 6, 55, list(whole(6, 55), token(7, a, 40), token(7, b, 50), token(8, none, 70))},
		{"a zero ID's", three, 8, first, list(token(6, b, 60), token(7, a, 40), token(7, b, 50), whole(8, first))},
		{"a new one ahead", three, 5, 1, append(list(whole(5, 1)), three...)},
		{"a new one behind", three, top, 1, append(slices.Clone(three), whole(top, 1))},
		{"one that has all IDs", ofGrant(7), 7, 3, list(whole(7, 3))},
		{"less", list(whole(7, 55)), 7, 50, list(whole(7, 55))},
		{"as much", list(whole(7, 55)), 7, 55, list(whole(7, 55))},
		{"more", list(whole(7, 55)), 7, 56, list(whole(7, 56))},
		{"below 0", list(whole(7, first)), 7, -5, list(whole(7, -5))},
		{"the greatest time", list(whole(7, 55)), 7, last, list(whole(7, last))},
		{"beside a whole one", list(whole(7, 55)), 8, 50, list(whole(7, 55), whole(8, 50))},
		{"ahead of a whole one", list(whole(7, 55)), 6, 50, list(whole(6, 50), whole(7, 55))},
	} {
		wantList(t, c.what, revoke.Kill(c.l, c.grant, c.exp), c.want)
	}
}

func TestP14_4Has(t *testing.T) {
	l := list(token(6, b, 60), token(7, a, 40), token(7, b, 50), whole(8, 5), token(9, none, first))
	for _, c := range []struct {
		grant uint64
		id    api.ID
		want  bool
	}{
		{6, b, true}, {6, a, false}, {6, none, false}, {6, high, false},
		{7, a, true}, {7, b, true}, {7, a2, false}, {7, none, false}, {7, high, false},
		{8, none, true}, {8, a, true}, {8, high, true},
		{9, none, true}, {9, low, false}, {9, b, false},
		{0, none, false}, {5, b, false}, {10, none, false}, {top, high, false}, {7 + 1<<32, a, false},
	} {
		wantHas(t, "a list", l, c.grant, c.id, c.want)
	}
	for _, grant := range someGrants() {
		for _, id := range someIDs() {
			wantHas(t, "none", nil, grant, id, false)
			wantHas(t, "an empty list", list(), grant, id, false)
			wantHas(t, "a whole grant", list(whole(7, 1)), grant, id, grant == 7)
			wantHas(t, "one token", list(token(7, a, 1)), grant, id, grant == 7 && id == a)
			wantHas(t, "all IDs", ofGrant(7), grant, id, grant == 7)
		}
	}
}

func TestP14_5Prune(t *testing.T) {
	l := list(token(6, b, 60), token(7, a, 40), token(7, b, 50), whole(8, 50), whole(9, 51), token(10, none, first), token(11, a, last))
	for _, c := range []struct {
		now  int64
		want []api.Revoked
	}{
		{first, list(token(6, b, 60), token(7, a, 40), token(7, b, 50), whole(8, 50), whole(9, 51), token(11, a, last))},
		{39, list(token(6, b, 60), token(7, a, 40), token(7, b, 50), whole(8, 50), whole(9, 51), token(11, a, last))},
		{40, list(token(6, b, 60), token(7, b, 50), whole(8, 50), whole(9, 51), token(11, a, last))},
		{49, list(token(6, b, 60), token(7, b, 50), whole(8, 50), whole(9, 51), token(11, a, last))},
		{50, list(token(6, b, 60), whole(9, 51), token(11, a, last))},
		{59, list(token(6, b, 60), token(11, a, last))},
		{60, list(token(11, a, last))},
		{last - 1, list(token(11, a, last))},
		{last, nil},
	} {
		wantList(t, "a list", revoke.Prune(l, c.now), c.want)
	}
	for _, now := range someTimes() {
		wantList(t, "none", revoke.Prune(nil, now), nil)
		wantList(t, "an empty list", revoke.Prune(list(), now), nil)
	}
}

// TestP14_1NoList: of what is no list nothing is told, whatever else is handed in.
func TestP14_1NoList(t *testing.T) {
	for what, l := range noLists() {
		for _, grant := range someGrants() {
			if k := revoke.Kill(l, grant, 60); len(k) > 0 {
				t.Errorf("%s: Kill told %v", what, k)
			}
			for _, id := range someIDs() {
				if n := revoke.Add(l, grant, id, 60); len(n) > 0 || revoke.Has(l, grant, id) {
					t.Errorf("%s: Add told %v, Has %v", what, n, revoke.Has(l, grant, id))
				}
			}
		}
		for _, now := range someTimes() {
			if p := revoke.Prune(l, now); len(p) > 0 {
				t.Errorf("%s: Prune at %d told %v", what, now, p)
			}
		}
	}
}
