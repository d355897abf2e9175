package engine_test

import (
	"fmt"
	"maps"
	"math"
	"slices"
	"testing"

	"postern/api"
	"postern/disk"
	"postern/engine"
	"postern/ledger"
	"postern/ring"
	"postern/seal"
	"postern/store"
)

const (
	last  = math.MaxInt64
	first = math.MinInt64
)

// The examples' beginning: the clock, and a grant.
const (
	ten = 10
	one = 1
)

func kinds() []int { return []int{api.EngineSealed, api.EngineHeld} }

// other tells the kind of the other engine.
func other(kind int) int { return api.EngineSealed + api.EngineHeld - kind }

func of(t *testing.T, kind int) engine.Engine {
	t.Helper()
	e, bad := engine.Of(kind)
	if bad != api.OK {
		t.Fatalf("Of(%d): %d", kind, bad)
	}
	return e
}

// started tells a disk, and a store over it.
func started(t *testing.T) (*disk.Disk, *store.Store) {
	t.Helper()
	d, e := disk.New(1 << 25)
	if e != api.OK {
		t.Fatalf("New: %d", e)
	}
	s, e := store.Open(d, api.Limits{Pairs: 1 << 13, Weight: 1 << 23, Log: 1 << 20})
	if e != api.OK {
		t.Fatalf("Open: %d", e)
	}
	return d, s
}

// begun tells the examples' transaction: the clock is 10, grant 1 has sealed nothing, the ring has key 1.
func begun(t *testing.T) *ledger.Tx {
	t.Helper()
	_, s := started(t)
	x := ledger.Begin(s)
	x.SetClock(ten)
	x.PutGrant(granted(one, 0))
	x.SetRing(keys(2, key(1, 0)))
	return x
}

// granted tells a grant's row; no two fields of it are alike.
func granted(n uint64, sealed int64) api.Grant {
	return api.Grant{N: n, User: "ann", Client: "shop", Scopes: []string{"a", "b"}, Engine: 7, Live: true, Current: id(9), Exp: 1 << 40, Last: 1 << 39, Sealed: sealed, Issues: 14}
}

func secret(kid uint64) [32]byte { return [32]byte{0: byte(kid), 31: 77} }

func key(kid uint64, until int64) api.Key {
	return api.Key{Kid: kid, Secret: secret(kid), Until: until}
}

func keys(next uint64, l ...api.Key) api.Ring { return api.Ring{Keys: l, Next: next} }

// id tells an ID that ends with another byte than it begins with.
func id(n byte) api.ID { return api.ID{0: n, 15: n ^ 255} }

// said tells claims that may be.
func said(grant uint64, d api.ID, exp int64) api.Claims {
	return api.Claims{Iss: "iss", Sub: "ann", Client: "shop", Aud: "api", Scopes: []string{"a", "b"}, Grant: grant, Iat: 0, Exp: exp, ID: d}
}

// example tells the examples' claims.
func example() api.Claims { return said(one, api.ID{}, 20) }

// noRings tells what is no ring.
func noRings() map[string]api.Ring {
	many := keys(20)
	for kid := uint64(1); kid < 9; kid++ {
		many.Keys = append(many.Keys, key(kid, 100))
	}
	many.Keys = append(many.Keys, key(9, 0))
	return map[string]api.Ring{
		"zero":                   {},
		"no keys":                keys(5),
		"kid 0":                  keys(5, key(0, 0)),
		"kids that fall":         keys(5, key(2, 100), key(1, 0)),
		"one kid twice":          keys(5, key(1, 100), key(1, 0)),
		"two current ones":       keys(5, key(1, 0), key(2, 0)),
		"the last one put aside": keys(5, key(1, 100), key(2, 100)),
		"a time below 0":         keys(5, key(1, -1), key(2, 0)),
		"Next is the last kid":   keys(2, key(1, 100), key(2, 0)),
		"Next beyond int64":      keys(1<<63, key(1, 0)),
		"nine keys":              many,
	}
}

// noClaims tells claims that may not be, and their errors.
func noClaims() map[string]struct {
	c    api.Claims
	want api.Errno
} {
	type row = struct {
		c    api.Claims
		want api.Errno
	}
	spoilt := func(want api.Errno, change func(c *api.Claims)) row {
		c := example()
		change(&c)
		return row{c, want}
	}
	return map[string]row{
		"no issuer":           spoilt(api.ErrClaimName, func(c *api.Claims) { c.Iss = "" }),
		"no subject":          spoilt(api.ErrClaimName, func(c *api.Claims) { c.Sub = "" }),
		"no client":           spoilt(api.ErrClaimName, func(c *api.Claims) { c.Client = "" }),
		"a bad audience":      spoilt(api.ErrClaimName, func(c *api.Claims) { c.Aud = "\xff" }),
		"scopes out of order": spoilt(api.ErrClaimScope, func(c *api.Claims) { c.Scopes = []string{"b", "a"} }),
		"no exp ahead of iat": spoilt(api.ErrClaimTime, func(c *api.Claims) { c.Iat = c.Exp }),
		"a time below 0":      spoilt(api.ErrClaimTime, func(c *api.Claims) { c.Iat = -1 }),
		"grant 0":             spoilt(api.ErrClaimForm, func(c *api.Claims) { c.Grant = 0 }),
		"a grant too great":   spoilt(api.ErrClaimForm, func(c *api.Claims) { c.Grant = 1 << 63 }),
		"zero claims":         {api.Claims{}, api.ErrClaimName},
	}
}

// The keys of pairs, by chapter 13's table.
const listKey = "r"

func grantKey(n uint64) string {
	return fmt.Sprintf("G%s", []byte{byte(n >> 56), byte(n >> 48), byte(n >> 40), byte(n >> 32), byte(n >> 24), byte(n >> 16), byte(n >> 8), byte(n)})
}

func heldKey(d api.ID) string { return "H" + string(d[:]) }

// pairsOf tells all pairs that a transaction sees.
func pairsOf(x *ledger.Tx) map[string]string {
	m := map[string]string{}
	for k, v := range x.Range(nil) {
		m[string(k)] = string(v)
	}
	return m
}

// differing tells the keys under which two rows of pairs are unlike.
func differing(p, q map[string]string) []string {
	var l []string
	for k, v := range p {
		if w, there := q[k]; !there || v != w {
			l = append(l, k)
		}
	}
	for k := range q {
		if _, there := p[k]; !there {
			l = append(l, k)
		}
	}
	slices.Sort(l)
	return l
}

// doing asks that what is done changes just the pairs of these keys, and meets no error.
func doing(t *testing.T, what string, x *ledger.Tx, do func(), keys ...string) {
	t.Helper()
	before := pairsOf(x)
	do()
	slices.Sort(keys)
	if got := differing(before, pairsOf(x)); !slices.Equal(got, keys) {
		t.Errorf("%s: %q have changed, not %q", what, got, keys)
	}
	wantErrno(t, what+": Err", x.Err(), api.OK)
}

// mint mints a token that has no error.
func mint(t *testing.T, x *ledger.Tx, kind int, c api.Claims) string {
	t.Helper()
	text, e := of(t, kind).Mint(x, c)
	if e != api.OK || engine.Form(text) != kind {
		t.Fatalf("Mint by %d: %q, %d", kind, text, e)
	}
	return text
}

// sealedBy tells the sealed token of claims by a key.
func sealedBy(t *testing.T, k api.Key, c api.Claims) string {
	t.Helper()
	text, e := seal.Mint(k, c)
	if e != api.OK {
		t.Fatalf("seal.Mint: %d", e)
	}
	return text
}

// rotated tells a ring that has been rotated.
func rotated(t *testing.T, r api.Ring, until int64) api.Ring {
	t.Helper()
	r, e := ring.Rotate(r, secret(r.Next), until)
	if e != api.OK {
		t.Fatalf("Rotate: %d", e)
	}
	return r
}

func lineOf(v any) string { return fmt.Sprintf("%+v", v) }

func wantErrno(t *testing.T, what string, got, want api.Errno) {
	t.Helper()
	if got != want {
		t.Errorf("%s: %d, not %d", what, got, want)
	}
}

// wantSame asks that two values are alike: nil and empty lists are one there.
func wantSame(t *testing.T, what string, got, want any) {
	t.Helper()
	if lineOf(got) != lineOf(want) {
		t.Errorf("%s: %s, not %s", what, lineOf(got), lineOf(want))
	}
}

// wantTaken asks that a text is taken, by Find and by its engine, for these claims, and that nothing changes.
func wantTaken(t *testing.T, what string, x *ledger.Tx, text string, want api.Claims) {
	t.Helper()
	doing(t, what+": Find", x, func() {
		got, there := engine.Find(x, text)
		if !there {
			t.Errorf("%s: %q is not taken", what, text)
		}
		wantSame(t, what, got, want)
		got, there = of(t, engine.Form(text)).Find(x, text)
		if !there {
			t.Errorf("%s: %q is not taken by its engine", what, text)
		}
		wantSame(t, what, got, want)
	})
}

// wantLost asks that a text is not taken, by Find and by both engines, and that nothing changes.
func wantLost(t *testing.T, what string, x *ledger.Tx, text string) {
	t.Helper()
	doing(t, what+": Find", x, func() {
		got, there := engine.Find(x, text)
		if there {
			t.Errorf("%s: %q is taken", what, text)
		}
		wantSame(t, what, got, api.Claims{})
		for _, kind := range kinds() {
			if got, there = of(t, kind).Find(x, text); there {
				t.Errorf("%s: %q is taken by %d", what, text, kind)
			}
			wantSame(t, what, got, api.Claims{})
		}
	})
}

func wantList(t *testing.T, what string, x *ledger.Tx, want ...api.Revoked) {
	t.Helper()
	wantSame(t, what+": the list", x.Revoked(), want)
}

// wantHelds asks that just the rows of these IDs are held.
func wantHelds(t *testing.T, what string, x *ledger.Tx, want ...api.ID) {
	t.Helper()
	m := map[api.ID]bool{}
	for _, r := range x.Helds() {
		m[r.Claims.ID] = true
	}
	w := map[api.ID]bool{}
	for _, d := range want {
		w[d] = true
	}
	if !maps.Equal(m, w) {
		t.Errorf("%s: held are %v, not %v", what, m, w)
	}
}

func entry(grant uint64, d api.ID, exp int64) api.Revoked {
	return api.Revoked{Grant: grant, ID: d, Exp: exp}
}

func whole(grant uint64, exp int64) api.Revoked {
	return api.Revoked{Whole: true, Grant: grant, Exp: exp}
}

// noLists tells what is no list.
func noLists() map[string][]api.Revoked {
	return map[string][]api.Revoked{
		"IDs that fall":        {entry(one, id(9), 90), entry(one, api.ID{}, 90)},
		"one twice":            {entry(one, api.ID{}, 90), entry(one, api.ID{}, 90)},
		"a whole with an ID":   {{Whole: true, Grant: one, ID: id(1), Exp: 90}},
		"a whole beside one":   {whole(one, 90), entry(one, id(1), 90)},
		"grants that fall":     {entry(2, api.ID{}, 90), entry(one, api.ID{}, 90)},
		"one expired is wrong": {entry(2, api.ID{}, 5), entry(one, api.ID{}, 90)},
	}
}
