package revoke_test

import (
	"math/rand"
	"slices"
	"testing"

	"postern/api"
	"postern/revoke"
)

// everyCall tells the lists that the calls answer of one.
func everyCall(l []api.Revoked, grant uint64, id api.ID, time int64) [][]api.Revoked {
	revoke.Check(l)
	revoke.Has(l, grant, id)
	return [][]api.Revoked{revoke.Add(l, grant, id, time), revoke.Kill(l, grant, time), revoke.Prune(l, time)}
}

// eachRow calls f with lists and with what is none, and with what may be asked of them.
func eachRow(f func(what string, l []api.Revoked, grant uint64, id api.ID, time int64)) {
	rows := goodLists()
	for what, l := range noLists() {
		rows[what] = l
	}
	for what, l := range rows {
		for _, grant := range someGrants() {
			for _, id := range someIDs() {
				for _, time := range someTimes() {
					f(what, l, grant, id, time)
				}
			}
		}
	}
}

func spoil(l []api.Revoked) {
	l = l[:cap(l)]
	for i := range l {
		l[i] = api.Revoked{Whole: true, Grant: 99, ID: b, Exp: 99}
	}
}

// TestP14_7HandedIn: what is handed in is not changed, nor is the room behind it.
func TestP14_7HandedIn(t *testing.T) {
	eachRow(func(what string, l []api.Revoked, grant uint64, id api.ID, time int64) {
		room := append(slices.Clone(l), token(98, a, 1), token(98, b, 2), whole(99, 3))
		kept := slices.Clone(room)
		everyCall(room[:len(l)], grant, id, time)
		if !slices.Equal(room, kept) {
			t.Fatalf("%s: %v became %v", what, kept, room)
		}
	})
}

// TestP14_7Told: what is told is the caller's own, also where nothing changes: whoever writes into it spoils neither what was handed in nor another answer, nor the other way round.
func TestP14_7Told(t *testing.T) {
	eachRow(func(what string, l []api.Revoked, grant uint64, id api.ID, time int64) {
		in := append(slices.Clone(l), token(98, a, 1))[:len(l)]
		want := everyCall(l, grant, id, time)
		got := everyCall(in, grant, id, time)
		spoil(in)
		for i := range got {
			if !slices.Equal(got[i], want[i]) {
				t.Fatalf("%s: answer %d became %v, not %v", what, i, got[i], want[i])
			}
		}
		in = append(slices.Clone(l), token(98, a, 1))[:len(l)]
		got = everyCall(in, grant, id, time)
		for i := range got {
			spoil(got[i])
			for j := i + 1; j < len(got); j++ {
				if !slices.Equal(got[j], want[j]) {
					t.Fatalf("%s: answer %d spoilt answer %d", what, i, j)
				}
			}
		}
		if !slices.Equal(in, l) || in[:len(in)+1][len(in)] != token(98, a, 1) {
			t.Fatalf("%s: an answer's writer spoilt what was handed in", what)
		}
	})
}

// TestP14_7Nothing: where nothing changes the list is told again, as new memory.
func TestP14_7Nothing(t *testing.T) {
	l := list(whole(7, 55), token(8, a, 60))
	for _, got := range [][]api.Revoked{
		revoke.Add(l, 7, a, 90), revoke.Add(l, 8, a, 60), revoke.Kill(l, 7, 55), revoke.Prune(l, 54),
	} {
		wantList(t, "nothing changes", got, list(whole(7, 55), token(8, a, 60)))
		spoil(got)
	}
	wantList(t, "behind the writers", l, list(whole(7, 55), token(8, a, 60)))
}

// TestP14_7Again: a list that is handed in again with other contents is another list (R6).
func TestP14_7Again(t *testing.T) {
	l := list(token(7, a, 40), token(8, b, 50))
	wantHas(t, "first", l, 7, a, true)
	l[0], l[1] = token(6, a, 40), whole(9, 50)
	wantHas(t, "then", l, 7, a, false)
	wantHas(t, "then", l, 9, b, true)
	l[0] = token(10, a, 40)
	if revoke.Check(l) != api.ErrRevokeForm || revoke.Has(l, 9, b) {
		t.Errorf("%v is still taken for a list", l)
	}
}

// TestP14_7Ends: no call panics or stays away, whatever rows are handed in.
func TestP14_7Ends(t *testing.T) {
	r := rand.New(rand.NewSource(7))
	for range 3000 {
		var l []api.Revoked
		for range r.Intn(12) {
			l = append(l, api.Revoked{Whole: r.Intn(3) == 0, Grant: aGrant(r), ID: anID(r), Exp: aTime(r)})
		}
		for _, told := range everyCall(l, aGrant(r), anID(r), aTime(r)) {
			if !isList(l) && len(told) > 0 || !isList(told) {
				t.Fatalf("%v: %v", l, told)
			}
		}
	}
}

// TestP14_7Long: a list of very many entries, asked at its ends and in its midst.
func TestP14_7Long(t *testing.T) {
	const n = 20000
	var l []api.Revoked
	for i := range n {
		l = append(l, token(uint64(i/4), api.ID{0: byte(i % 4), 1: 1}, int64(i)))
	}
	for _, i := range []int{0, 1, n / 2, n - 2, n - 1} {
		x := l[i]
		wantHas(t, "long", l, x.Grant, x.ID, true)
		wantHas(t, "long", l, x.Grant, api.ID{9}, false)
		if got := revoke.Add(l, x.Grant, x.ID, n); len(got) != n || got[i].Exp != n {
			t.Errorf("Add at %d: %d entries", i, len(got))
		}
		if got := revoke.Kill(l, x.Grant, 1); len(got) != n-3 || got[i/4*4] != whole(x.Grant, 1) {
			t.Errorf("Kill at %d: %d entries", i, len(got))
		}
		if got := revoke.Prune(l, x.Exp); len(got) != n-1-i {
			t.Errorf("Prune at %d: %d entries", i, len(got))
		}
	}
}
