package revoke_test

import (
	"math/rand"
	"testing"

	"postern/api"
	"postern/revoke"
)

// TestP14_6Model: a walk of Adds, Kills and Prunes, held against the model behind each of them.
func TestP14_6Model(t *testing.T) {
	r := rand.New(rand.NewSource(2))
	for range 300 {
		var l []api.Revoked
		m := modelOf(nil)
		for range 60 {
			grant, id, exp := aGrant(r), anID(r), aTime(r)
			switch n := r.Intn(12); {
			case n < 8:
				l = revoke.Add(l, grant, id, exp)
				m.add(grant, id, exp)
			case n < 11:
				l = revoke.Kill(l, grant, exp)
				m.kill(grant, exp)
			default:
				now := exp - 20
				if exp < 0 {
					now = exp
				}
				l = revoke.Prune(l, now)
				m.prune(now)
			}
			wantList(t, "the walk", l, m.list())
			grant, id = aGrant(r), anID(r)
			wantHas(t, "the walk", l, grant, id, m.has(grant, id))
		}
	}
}

// each calls f with some lists, the good ones that are written out among them.
func each(seed int64, f func(r *rand.Rand, l []api.Revoked)) {
	r := rand.New(rand.NewSource(seed))
	for _, l := range goodLists() {
		for range 10 {
			f(r, l)
		}
	}
	for range 300 {
		f(r, shaken(r, 25))
	}
}

// asked tells tokens to ask for: those of the list, and of the tests' grants and IDs.
func asked(l []api.Revoked) []one {
	var tokens []one
	for _, x := range l {
		tokens = append(tokens, one{x.Grant, x.ID}, one{x.Grant + 1, x.ID}, one{x.Grant, a2})
	}
	for _, grant := range someGrants() {
		for _, id := range someIDs() {
			tokens = append(tokens, one{grant, id})
		}
	}
	return tokens
}

// TestP14_6Add: behind an Add its token is revoked, and of all others Has tells what it told.
func TestP14_6Add(t *testing.T) {
	each(3, func(r *rand.Rand, l []api.Revoked) {
		grant, id := aGrant(r), anID(r)
		n := revoke.Add(l, grant, id, aTime(r))
		wantHas(t, "its token", n, grant, id, true)
		for _, k := range asked(l) {
			wantHas(t, "others", n, k.grant, k.id, k == one{grant, id} || revoke.Has(l, k.grant, k.id))
		}
	})
}

// TestP14_6Kill: behind a Kill each token of its grant is revoked, and of all others Has tells what it told.
func TestP14_6Kill(t *testing.T) {
	each(4, func(r *rand.Rand, l []api.Revoked) {
		grant := aGrant(r)
		n := revoke.Kill(l, grant, aTime(r))
		for _, id := range someIDs() {
			wantHas(t, "its grant", n, grant, id, true)
		}
		for _, k := range asked(l) {
			wantHas(t, "others", n, k.grant, k.id, k.grant == grant || revoke.Has(l, k.grant, k.id))
		}
	})
}

// entryOf tells the entry by which a token is revoked.
func entryOf(l []api.Revoked, k one) (api.Revoked, bool) {
	for _, x := range l {
		if x.Grant == k.grant && (x.Whole || x.ID == k.id) {
			return x, true
		}
	}
	return api.Revoked{}, false
}

// TestP14_6Prune: behind a Prune the tokens are revoked whose entries are above now.
func TestP14_6Prune(t *testing.T) {
	each(5, func(r *rand.Rand, l []api.Revoked) {
		now := aTime(r)
		n := revoke.Prune(l, now)
		for _, k := range asked(l) {
			x, there := entryOf(l, k)
			wantHas(t, "pruned", n, k.grant, k.id, there && x.Exp > now)
		}
		wantList(t, "pruned again", revoke.Prune(n, now), n)
	})
}

// TestP14_6Unlike: Adds and Kills of unlike grants tell one list, whichever comes first.
func TestP14_6Unlike(t *testing.T) {
	each(6, func(r *rand.Rand, l []api.Revoked) {
		p, q := aGrant(r), aGrant(r)
		if p == q {
			return
		}
		i, j, x, y := anID(r), anID(r), aTime(r), aTime(r)
		if r.Intn(2) == 0 {
			i = j
		}
		wantList(t, "two Adds", revoke.Add(revoke.Add(l, p, i, x), q, j, y), revoke.Add(revoke.Add(l, q, j, y), p, i, x))
		wantList(t, "an Add and a Kill", revoke.Kill(revoke.Add(l, p, i, x), q, y), revoke.Add(revoke.Kill(l, q, y), p, i, x))
		wantList(t, "two Kills", revoke.Kill(revoke.Kill(l, p, x), q, y), revoke.Kill(revoke.Kill(l, q, y), p, x))
	})
}
