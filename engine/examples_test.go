package engine_test

import (
	"strings"
	"testing"

	"postern/api"
	"postern/engine"
)

// TestP15_4ExampleHeld: the chapter's first example.
func TestP15_4ExampleHeld(t *testing.T) {
	x := begun(t)
	e := of(t, api.EngineHeld)
	text := mint(t, x, api.EngineHeld, example())
	wantSame(t, "the token", text, "at_AAAAAAAAAAAAAAAAAAAAAA")
	wantTaken(t, "the token", x, text, example())
	wantLost(t, "no canonical text", x, "at_AAAAAAAAAAAAAAAAAAAAAB")
	wantForm(t, "at_AAAAAAAAAAAAAAAAAAAAAB", api.EngineNone)
	x.SetClock(20)
	wantLost(t, "at 20", x, text)
	x.SetClock(10)
	e.Drop(x, example())
	wantLost(t, "dropped", x, text)
	if row, there := x.Held(api.ID{}); there {
		t.Errorf("a row stands: %v", row)
	}
}

// TestP15_4ExampleSealed: the second one.
func TestP15_4ExampleSealed(t *testing.T) {
	e := of(t, api.EngineSealed)
	for what, row := range map[string]struct {
		sealed int64
		drop   bool
		want   []api.Revoked
	}{
		"Drop":                  {drop: true, want: []api.Revoked{{Grant: 1, Exp: 20}}},
		"Kill":                  {sealed: 20, want: []api.Revoked{{Whole: true, Grant: 1, Exp: 20}}},
		"Kill of a row with 10": {sealed: 10},
	} {
		x := begun(t)
		text := mint(t, x, api.EngineSealed, example())
		if len(strings.Split(text, ".")) != 3 {
			t.Errorf("the token is %q", text)
		}
		g, _ := x.Grant(one)
		wantSame(t, "the grant", g, granted(one, 20))
		wantTaken(t, "the token", x, text, example())
		if row.drop {
			e.Drop(x, example())
		} else {
			g.Sealed = row.sealed
			e.Kill(x, g)
		}
		wantList(t, what, x, row.want...)
		want(t, what, x, text, example(), len(row.want) == 0)
	}
}

// TestP15_7Example: the fifth one.
func TestP15_7Example(t *testing.T) {
	for _, kind := range kinds() {
		x := begun(t)
		text := mint(t, x, kind, example())
		x.SetRing(rotated(t, x.Ring(), 15))
		for now := int64(10); now < 18; now++ {
			x.SetClock(now)
			want(t, "put aside", x, text, example(), now < 15)
		}
		x.SetClock(10)
		of(t, api.EngineSealed).Forget(x, 1)
		wantTaken(t, "by the sealed engine", x, text, example())
		of(t, api.EngineHeld).Forget(x, 1)
		wantHelds(t, "by the held engine", x)
		want(t, "by the held engine", x, text, example(), kind == api.EngineSealed)
	}
}

// TestP15_6Example: the sixth one.
func TestP15_6Example(t *testing.T) {
	x := begun(t)
	a, b := said(one, id(1), 20), said(one, id(2), 20)
	p, q := mint(t, x, api.EngineSealed, a), mint(t, x, api.EngineHeld, b)
	g, _ := x.Grant(one)
	of(t, api.EngineSealed).Kill(x, g)
	wantLost(t, "by the sealed engine", x, p)
	wantTaken(t, "by the sealed engine", x, q, b)
	of(t, api.EngineHeld).Kill(x, g)
	wantLost(t, "by both", x, p)
	wantLost(t, "by both", x, q)
	if c, there := engine.Find(x, q); there || c.Sub != "" {
		t.Errorf("%v is told", c)
	}
}
