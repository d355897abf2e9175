package shift_test

import (
	"fmt"
	"maps"
	"math"
	"slices"
	"testing"

	"postern/api"
	"postern/disk"
	"postern/ledger"
	"postern/shift"
	"postern/store"
)

const (
	sealed = api.EngineSealed
	held   = api.EngineHeld
)

func kinds() []int { return []int{sealed, held} }

// other tells the kind of the other engine.
func other(kind int) int { return sealed + held - kind }

// noKinds tells numbers that are no engine's.
func noKinds() []int {
	return []int{api.EngineNone, 3, -1, -2, 255, 256, 257, 258, 1<<32 + 1, 1<<32 + 2, math.MaxInt, math.MinInt, math.MinInt + 1}
}

// noBatches tells numbers that no step takes.
func noBatches() []int {
	return []int{0, -1, -64, 65, 66, 1 << 32, 1<<32 + 1, math.MaxInt, math.MinInt, math.MinInt + 1}
}

// started tells a disk, and a store over it.
func started(t *testing.T) (*disk.Disk, *store.Store) {
	t.Helper()
	d, e := disk.New(1 << 25)
	if e != api.OK {
		t.Fatalf("New: %d", e)
	}
	s, e := store.Open(d, api.Limits{Pairs: 1 << 13, Weight: 1 << 23, Log: 1 << 20})
	if e != api.OK {
		t.Fatalf("Open: %d", e)
	}
	return d, s
}

// begun tells a transaction that sees a Shift and these grants.
func begun(t *testing.T, x api.Shift, l ...api.Grant) *ledger.Tx {
	t.Helper()
	_, s := started(t)
	tx := ledger.Begin(s)
	tx.SetShift(x)
	for _, g := range l {
		tx.PutGrant(g)
	}
	wantErrno(t, "begun: Err", tx.Err(), api.OK)
	return tx
}

func id(n byte) api.ID { return api.ID{0: n, 15: n ^ 255} }

// grant tells a live grant's row; no two fields of it are alike, and no two grants but in their engine.
func grant(n uint64, engine int) api.Grant {
	return api.Grant{N: n, User: fmt.Sprintf("user %d", n), Client: fmt.Sprintf("client %d", n), Scopes: []string{"a", fmt.Sprintf("b%d", n)}, Engine: engine, Live: true, Current: id(byte(n)), Exp: 1000 + int64(n), Last: 2000 + int64(n), Sealed: 3000 + int64(n), Issues: 4000 + int(n)}
}

// dead tells a grant's row that is not live.
func dead(n uint64, engine int) api.Grant {
	g := grant(n, engine)
	g.Live = false
	return g
}

// grants tells so many live ones, by their numbers from 1 on.
func grants(size, engine int) []api.Grant {
	var l []api.Grant
	for n := range uint64(size) {
		l = append(l, grant(n+1, engine))
	}
	return l
}

// on tells a migration that goes on.
func on(from, to int, cursor uint64) api.Shift {
	return api.Shift{On: true, From: from, To: to, Cursor: cursor, Epoch: 7}
}

// The keys of pairs, by chapter 13's table.
const shiftKey = "s"

func grantKey(n uint64) string {
	return fmt.Sprintf("G%s", []byte{byte(n >> 56), byte(n >> 48), byte(n >> 40), byte(n >> 32), byte(n >> 24), byte(n >> 16), byte(n >> 8), byte(n)})
}

// pairsOf tells all pairs that a transaction sees.
func pairsOf(x *ledger.Tx) map[string]string {
	m := map[string]string{}
	for k, v := range x.Range(nil) {
		m[string(k)] = string(v)
	}
	return m
}

// differing tells the keys under which two rows of pairs are unlike.
func differing(p, q map[string]string) []string {
	m := map[string]bool{}
	for k, v := range p {
		if w, there := q[k]; !there || v != w {
			m[k] = true
		}
	}
	for k := range q {
		if _, there := p[k]; !there {
			m[k] = true
		}
	}
	return slices.Sorted(maps.Keys(m))
}

// doing asks that what is done changes just the pairs of these keys, and meets no error.
func doing(t *testing.T, what string, x *ledger.Tx, do func(), keys ...string) {
	t.Helper()
	before := pairsOf(x)
	do()
	slices.Sort(keys)
	if got := differing(before, pairsOf(x)); !slices.Equal(got, keys) {
		t.Errorf("%s: %q have changed, not %q", what, got, keys)
	}
	wantErrno(t, what+": Err", x.Err(), api.OK)
}

func lineOf(v any) string { return fmt.Sprintf("%+v", v) }

func wantErrno(t *testing.T, what string, got, want api.Errno) {
	t.Helper()
	if got != want {
		t.Errorf("%s: %d, not %d", what, got, want)
	}
}

// wantSame asks that two values are alike: nil and empty lists are one there.
func wantSame(t *testing.T, what string, got, want any) {
	t.Helper()
	if lineOf(got) != lineOf(want) {
		t.Errorf("%s: %s, not %s", what, lineOf(got), lineOf(want))
	}
}

// wantBegin asks for what Begin answers; t's Shift is another one only if it is OK.
func wantBegin(t *testing.T, what string, x *ledger.Tx, to int, want api.Errno) {
	t.Helper()
	before := x.Shift()
	after, keys := before, []string{}
	if want == api.OK {
		after.On, after.To, after.Cursor = true, to, 0
	}
	if after != before {
		keys = append(keys, shiftKey)
	}
	doing(t, what, x, func() { wantErrno(t, what, shift.Begin(x, to), want) }, keys...)
	wantSame(t, what+": the Shift", x.Shift(), after)
}

// wantStep asks for what Step answers, and that it moves just the grants of these numbers.
func wantStep(t *testing.T, what string, x *ledger.Tx, n int, numbers ...uint64) {
	t.Helper()
	after, want := x.Shift(), x.Grants()
	keys := []string{shiftKey}
	for _, number := range numbers {
		at := slices.IndexFunc(want, func(g api.Grant) bool { return g.N == number })
		if want[at].Engine != after.To {
			keys = append(keys, grantKey(number))
		}
		want[at].Engine = after.To
		after.Cursor = number
	}
	if len(numbers) == 0 {
		after = api.Shift{From: after.To, Epoch: after.Epoch + 1}
	}
	doing(t, what, x, func() {
		moved, ended, e := shift.Step(x, n)
		if moved != len(numbers) || ended != (len(numbers) == 0) || e != api.OK {
			t.Errorf("%s: Step(%d): %d, %v, %d, not %d grants", what, n, moved, ended, e, len(numbers))
		}
	}, keys...)
	wantSame(t, what+": the Shift", x.Shift(), after)
	wantSame(t, what+": the grants", x.Grants(), want)
}

// wantRefused asks that Step refuses, and that nothing changes.
func wantRefused(t *testing.T, what string, x *ledger.Tx, n int, want api.Errno) {
	t.Helper()
	doing(t, what, x, func() {
		moved, ended, e := shift.Step(x, n)
		if moved != 0 || ended || e != want {
			t.Errorf("%s: Step(%d): %d, %v, %d, not %d", what, n, moved, ended, e, want)
		}
	})
}

func wantMints(t *testing.T, what string, x *ledger.Tx, want int) {
	t.Helper()
	doing(t, what, x, func() {
		if got := shift.Mints(x); got != want {
			t.Errorf("%s: Mints is %d, not %d", what, got, want)
		}
	})
}
