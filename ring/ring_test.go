package ring_test

import (
	"math"
	"math/rand"
	"slices"
	"testing"

	"postern/api"
	"postern/ring"
)

// noRings are what Check refuses, each for one thing alone.
func noRings() map[string]api.Ring {
	return map[string]api.Ring{
		"the zero ring":                   {},
		"no keys":                         keys(2),
		"an empty list":                   {Keys: []api.Key{}, Next: 2},
		"kid 0":                           keys(2, key(0, s, 0)),
		"kid 0 ahead":                     keys(2, key(0, s, 5), key(1, s, 0)),
		"kids 2, 1":                       keys(3, key(2, s, 9), key(1, s, 0)),
		"kids 1, 1":                       keys(3, key(1, s, 9), key(1, s, 0)),
		"kids 1, 3, 2":                    keys(4, key(1, s, 9), key(3, s, 9), key(2, s, 0)),
		"two of Until 0":                  keys(3, key(1, s, 0), key(2, s, 0)),
		"Until 0 in the middle":           keys(4, key(1, s, 5), key(2, s, 0), key(3, s, 0)),
		"the current one is the first":    keys(3, key(1, s, 0), key(2, s, 5)),
		"Until below 0":                   keys(3, key(1, s, -1), key(2, s, 0)),
		"the least Until":                 keys(3, key(1, s, math.MinInt64), key(2, s, 0)),
		"a last Until 5":                  keys(2, key(1, s, 5)),
		"a last Until below 0":            keys(2, key(1, s, -1)),
		"Next 0":                          keys(0, key(1, s, 0)),
		"Next is the kid":                 keys(2, key(2, s, 0)),
		"Next below the kid":              keys(2, key(3, s, 0)),
		"Next between two kids":           keys(2, key(1, s, 5), key(3, s, 0)),
		"Next 2^63":                       keys(1<<63, key(1, s, 0)),
		"Next 2^64 - 1":                   keys(math.MaxUint64, key(1, s, 0)),
		"kid 2^63 - 1, the greatest":      keys(top, key(top, s, 0)),
		"kid 2^63 - 1":                    keys(1<<63, key(top, s, 0)),
		"kid 2^63":                        keys(1<<63+1, key(1<<63, s, 0)),
		"kid 2^64 - 1":                    keys(0, key(math.MaxUint64, s, 0)),
		"a kid of 2^64 - 1 in the middle": keys(3, key(1, s, 5), key(math.MaxUint64, s, 5), key(2, s, 0)),
		"nine keys":                       fullRing(9, 10),
		"many keys":                       fullRing(300, 301),
	}
}

func goodRings() map[string]api.Ring {
	return map[string]api.Ring{
		"one key":                  keys(2, key(1, s, 0)),
		"a secret of bytes 00":     keys(2, key(1, [32]byte{}, 0)),
		"two keys":                 keys(3, key(1, s, 50), key(2, u, 0)),
		"gaps":                     keys(100, key(5, s, 1), key(17, u, top), key(40, v, 0)),
		"Untils that fall":         keys(9, key(1, s, 9), key(2, s, 4), key(3, s, 1), key(7, s, 0)),
		"secrets that are alike":   keys(4, key(1, s, 7), key(2, s, 7), key(3, s, 0)),
		"eight keys":               fullRing(8, 9),
		"the greatest Next":        keys(top, key(1, s, 0)),
		"the greatest kid":         keys(top, key(top-1, s, 0)),
		"two of the greatest kids": keys(top, key(top-2, s, 3), key(top-1, s, 0)),
	}
}

func TestP5_1Forms(t *testing.T) {
	for what, r := range goodRings() {
		if e := ring.Check(r); e != api.OK {
			t.Errorf("%s: Check(%v) = %d", what, r, e)
		}
	}
	for what, r := range noRings() {
		if e := ring.Check(r); e != api.ErrRingForm {
			t.Errorf("%s: Check(%v) = %d", what, r, e)
		}
	}
}

// TestP5_1Small: all lists of up to three keys, of numbers around the edges.
func TestP5_1Small(t *testing.T) {
	some := []api.Key{}
	for _, kid := range []uint64{0, 1, 2, 3, top - 1, top, 1 << 63} {
		for _, until := range []int64{math.MinInt64, -1, 0, 1, top} {
			some = append(some, key(kid, s, until))
		}
	}
	rings := 0
	var try func(list []api.Key)
	try = func(list []api.Key) {
		for _, next := range []uint64{0, 1, 2, 3, 4, top - 1, top, 1 << 63, math.MaxUint64} {
			r := api.Ring{Keys: list, Next: next}
			if good := ring.Check(r) == api.OK; good != wantedForm(r) {
				t.Fatalf("Check(%v): a ring: %v", r, good)
			} else if good {
				rings++
			}
		}
		if len(list) < 3 {
			for _, k := range some {
				try(append(list[:len(list):len(list)], k))
			}
		}
	}
	try(nil)
	if rings < 50 {
		t.Errorf("%d rings alone", rings)
	}
}

// TestP5_1Lengths: from one key to MaxKeys.
func TestP5_1Lengths(t *testing.T) {
	for n := 1; n < 20; n++ {
		if good := ring.Check(fullRing(n, 1000)) == api.OK; good != (n <= 8) {
			t.Errorf("%d keys: a ring: %v", n, good)
		}
	}
}

func TestP5_2First(t *testing.T) {
	for _, secret := range [][32]byte{{}, s, u, v, {0: 255, 31: 255}} {
		r := ring.First(secret)
		wantRing(t, "First", r, keys(2, key(1, secret, 0)))
		if ring.Check(r) != api.OK {
			t.Errorf("First: %v is no ring", r)
		}
	}
}

func TestP5_3Examples(t *testing.T) {
	r, e := ring.Rotate(ring.First(s), u, 50)
	if e != api.OK {
		t.Errorf("Rotate: %d", e)
	}
	wantRing(t, "Rotate", r, keys(3, key(1, s, 50), key(2, u, 0)))
	for _, until := range []int64{0, -1, math.MinInt64} {
		got, e := ring.Rotate(r, v, until)
		wantRefused(t, "until", got, e, api.ErrRingClock)
	}
	got, e := ring.Rotate(fullRing(8, 9), v, 1)
	wantRefused(t, "eight keys", got, e, api.ErrRingFull)
}

// TestP5_3Edges: the least and the greatest time, the last room, the last kid.
func TestP5_3Edges(t *testing.T) {
	for _, until := range []int64{1, 2, top - 1, top} {
		got, e := ring.Rotate(keys(9, key(3, s, 4), key(5, u, 0)), v, until)
		if e != api.OK {
			t.Errorf("Rotate until %d: %d", until, e)
		}
		wantRing(t, "Rotate", got, keys(10, key(3, s, 4), key(5, u, until), key(9, v, 0)))
	}
	seven := fullRing(7, 50)
	got, e := ring.Rotate(seven, v, 3)
	if e != api.OK || len(got.Keys) != 8 || got.Keys[6] != key(7, seven.Keys[6].Secret, 3) || got.Keys[7] != key(50, v, 0) || got.Next != 51 {
		t.Errorf("Rotate of seven keys: %v, %d", got, e)
	}
	got, e = ring.Rotate(keys(top-1, key(1, s, 0)), v, 3)
	if e != api.OK {
		t.Errorf("Rotate to the last kid: %d", e)
	}
	wantRing(t, "Rotate to the last kid", got, keys(top, key(1, s, 3), key(top-1, v, 0)))
	got, e = ring.Rotate(got, v, 3)
	wantRefused(t, "no kid is left", got, e, api.ErrRingFull)
}

// TestP5_3Order: the first error that applies is told.
func TestP5_3Order(t *testing.T) {
	for what, r := range noRings() {
		for _, until := range []int64{-1, 0, 1} {
			got, e := ring.Rotate(r, v, until)
			wantRefused(t, what, got, e, api.ErrRingForm)
		}
	}
	for _, r := range []api.Ring{fullRing(8, 9), fullRing(8, top), fullRing(1, top), fullRing(7, top)} {
		got, e := ring.Rotate(r, v, 0)
		wantRefused(t, "until 0 of a full ring", got, e, api.ErrRingClock)
		got, e = ring.Rotate(r, v, 1)
		wantRefused(t, "a full ring", got, e, api.ErrRingFull)
	}
}

func wantKey(t *testing.T, what string, got api.Key, there bool, want api.Key) {
	t.Helper()
	if got != want || there != (want != api.Key{}) {
		t.Errorf("%s: %v, %v, want %v", what, got, there, want)
	}
}

func TestP5_4Found(t *testing.T) {
	for what, r := range goodRings() {
		k, there := ring.Current(r)
		wantKey(t, what+": Current", k, there, r.Keys[len(r.Keys)-1])
		for _, want := range r.Keys {
			k, there = ring.Find(r, want.Kid)
			wantKey(t, what+": Find", k, there, want)
		}
	}
}

func TestP5_4None(t *testing.T) {
	for what, r := range goodRings() {
		for _, kid := range []uint64{0, 1, 2, 4, 6, 9, 39, 41, r.Next, r.Next + 1, top, 1 << 63, math.MaxUint64} {
			if !slices.ContainsFunc(r.Keys, func(k api.Key) bool { return k.Kid == kid }) {
				k, there := ring.Find(r, kid)
				wantKey(t, what+": Find", k, there, api.Key{})
			}
		}
	}
	for what, r := range noRings() {
		k, there := ring.Current(r)
		wantKey(t, what+": Current", k, there, api.Key{})
		for _, kid := range []uint64{0, 1, 2, 3, top, 1 << 63, math.MaxUint64} {
			k, there := ring.Find(r, kid)
			wantKey(t, what+": Find", k, there, api.Key{})
		}
	}
}

func TestP5_5Examples(t *testing.T) {
	r := keys(3, key(1, s, 50), key(2, u, 0))
	wantRing(t, "at 49", ring.Prune(r, 49), r)
	late := ring.Prune(r, 50)
	wantRing(t, "at 50", late, keys(3, key(2, u, 0)))
	got, e := ring.Rotate(late, v, 60)
	if e != api.OK {
		t.Errorf("Rotate behind Prune: %d", e)
	}
	wantRing(t, "Rotate behind Prune", got, keys(4, key(2, u, 60), key(3, v, 0)))
}

// TestP5_5Edges: keys go from the front, from the middle, all but the current one, none.
func TestP5_5Edges(t *testing.T) {
	r := keys(90, key(2, s, 30), key(4, u, 10), key(5, v, top), key(7, s, 20), key(80, u, 0))
	for _, c := range []struct {
		now  int64
		left []uint64
	}{
		{math.MinInt64, []uint64{2, 4, 5, 7, 80}},
		{-1, []uint64{2, 4, 5, 7, 80}},
		{0, []uint64{2, 4, 5, 7, 80}},
		{9, []uint64{2, 4, 5, 7, 80}},
		{10, []uint64{2, 5, 7, 80}},
		{19, []uint64{2, 5, 7, 80}},
		{20, []uint64{2, 5, 80}},
		{30, []uint64{5, 80}},
		{top - 1, []uint64{5, 80}},
		{top, []uint64{80}},
	} {
		want := api.Ring{Next: 90}
		for _, k := range r.Keys {
			if slices.Contains(c.left, k.Kid) {
				want.Keys = append(want.Keys, k)
			}
		}
		wantRing(t, "Prune", ring.Prune(r, c.now), want)
	}
	wantRing(t, "Prune of one key", ring.Prune(keys(top, key(1, s, 0)), top), keys(top, key(1, s, 0)))
}

func TestP5_5NoRing(t *testing.T) {
	for what, r := range noRings() {
		for _, now := range []int64{math.MinInt64, 0, 1, 5, top} {
			wantRefused(t, what, ring.Prune(r, now), api.OK, api.OK)
		}
	}
}

func TestP5_6Examples(t *testing.T) {
	r := keys(3, key(1, s, 50), key(2, u, 0))
	got, e := ring.Distrust(r, 1, v)
	if e != api.OK {
		t.Errorf("Distrust of 1: %d", e)
	}
	wantRing(t, "Distrust of 1", got, keys(3, key(2, u, 0)))
	got, e = ring.Distrust(r, 2, v)
	if e != api.OK {
		t.Errorf("Distrust of 2: %d", e)
	}
	wantRing(t, "Distrust of 2", got, keys(4, key(1, s, 50), key(3, v, 0)))
	for _, kid := range []uint64{0, 3, 4, top, 1 << 63, math.MaxUint64} {
		got, e = ring.Distrust(r, kid, v)
		wantRefused(t, "a kid that is none", got, e, api.ErrRingKid)
	}
}

// TestP5_6Edges: a full ring, one key alone, no kid left.
func TestP5_6Edges(t *testing.T) {
	for what, r := range goodRings() {
		for i, k := range r.Keys {
			got, e := ring.Distrust(r, k.Kid, v)
			want := api.Ring{Keys: slices.Delete(slices.Clone(r.Keys), i, i+1), Next: r.Next}
			if i == len(r.Keys)-1 {
				if r.Next == top {
					wantRefused(t, what, got, e, api.ErrRingFull)
					continue
				}
				want.Keys, want.Next = append(want.Keys, key(r.Next, v, 0)), r.Next+1
			}
			if e != api.OK {
				t.Errorf("%s: %d", what, e)
			}
			wantRing(t, what, got, want)
		}
	}
	got, e := ring.Distrust(keys(top-1, key(1, s, 0)), 1, s)
	if e != api.OK {
		t.Errorf("Distrust towards the last kid: %d", e)
	}
	wantRing(t, "Distrust towards the last kid", got, keys(top, key(top-1, s, 0)))
}

// TestP5_6Order: the first error that applies is told.
func TestP5_6Order(t *testing.T) {
	for what, r := range noRings() {
		for _, kid := range []uint64{0, 1, 2, 3, 7, top, math.MaxUint64} {
			got, e := ring.Distrust(r, kid, v)
			wantRefused(t, what, got, e, api.ErrRingForm)
		}
	}
	r := keys(top, key(3, s, 9), key(4, u, 0))
	got, e := ring.Distrust(r, 5, v)
	wantRefused(t, "no such kid, and no kid left", got, e, api.ErrRingKid)
	got, e = ring.Distrust(r, 4, v)
	wantRefused(t, "no kid left", got, e, api.ErrRingFull)
	got, e = ring.Distrust(r, 3, v)
	if e != api.OK {
		t.Errorf("Distrust of one put aside, no kid left: %d", e)
	}
	wantRing(t, "Distrust of one put aside, no kid left", got, keys(top, key(4, u, 0)))
}

// TestP5_7Walks: many calls one behind the other, held against a model that knows no list.
func TestP5_7Walks(t *testing.T) {
	for seed := range 400 {
		r := rand.New(rand.NewSource(int64(seed)))
		at := someRing(r)
		w := walk{t: t, at: at, model: modelOf(at), secrets: map[uint64][32]byte{}, gone: map[uint64]bool{}, aside: map[uint64]int64{}}
		w.remember()
		for range 100 {
			w.step(r)
			if t.Failed() {
				return
			}
		}
	}
}

// walk is a ring that calls go over, its model, and what was seen: all secrets by their kids, the kids that have gone, until when the keys that are there were put aside.
type walk struct {
	t       *testing.T
	at      api.Ring
	model   *model
	secrets map[uint64][32]byte
	gone    map[uint64]bool
	aside   map[uint64]int64
}

func (w *walk) step(r *rand.Rand) {
	var e, want api.Errno
	ahead, got := w.at, api.Ring{}
	secret := someSecret(r)
	switch r.Intn(4) {
	case 0, 1:
		until := int64(r.Intn(200) - 2)
		current := w.model.current
		got, e = ring.Rotate(ahead, secret, until)
		want = w.model.rotate(secret, until)
		if e == api.OK {
			w.aside[current] = until
		}
	case 2:
		now := int64(r.Intn(150) - 2)
		got = ring.Prune(ahead, now)
		w.model.prune(now)
		w.stay(got, now)
	case 3:
		kid := ahead.Next - uint64(r.Intn(8))
		if r.Intn(2) == 0 {
			kid = ahead.Keys[r.Intn(len(ahead.Keys))].Kid
		}
		got, e = ring.Distrust(ahead, kid, secret)
		want = w.model.distrust(kid, secret)
		if e == api.OK {
			delete(w.aside, kid)
		}
	}
	if e != want {
		w.t.Errorf("behind %v: %d, want %d", ahead, e, want)
	}
	if e == api.OK {
		w.at = got
	}
	w.same()
	w.remember()
}

// stay: what was put aside until a time is there behind a Prune of a time below it.
func (w *walk) stay(got api.Ring, now int64) {
	for kid, until := range w.aside {
		if _, there := ring.Find(got, kid); there != (now < until) {
			w.t.Errorf("a key until %d at %d: %v", until, now, there)
		}
		if until <= now {
			delete(w.aside, kid)
		}
	}
}

func (w *walk) same() {
	wantRing(w.t, "a walk", w.at, w.model.ring())
	if ring.Check(w.at) != api.OK {
		w.t.Errorf("%v is no ring", w.at)
	}
	if k, there := ring.Current(w.at); !there || k.Kid != w.model.current || k.Until != 0 {
		w.t.Errorf("Current of %v: %v, %v", w.at, k, there)
	}
}

// remember: a kid is one key's for ever, and does not come again.
func (w *walk) remember() {
	for kid, secret := range w.secrets {
		k, there := ring.Find(w.at, kid)
		if there && (k.Secret != secret || w.gone[kid]) {
			w.t.Errorf("kid %d has come again in %v", kid, w.at)
		}
		if !there {
			w.gone[kid] = true
		}
	}
	for _, k := range w.at.Keys {
		if _, seen := w.secrets[k.Kid]; !seen {
			w.secrets[k.Kid] = k.Secret
		}
	}
}

// TestP5_7KidsDoNotComeAgain: the greatest kid goes, and the next one is another.
func TestP5_7KidsDoNotComeAgain(t *testing.T) {
	r := ring.First(s)
	for kid := uint64(1); kid < 20; kid++ {
		next, e := ring.Distrust(r, kid, u)
		if e != api.OK || !alike(next, keys(kid+2, key(kid+1, u, 0))) {
			t.Fatalf("Distrust of %v: %v, %d", r, next, e)
		}
		if k, there := ring.Find(next, kid); there {
			t.Errorf("kid %d is there: %v", kid, k)
		}
		r = next
	}
}

// TestP5_7FullIsNotForEver: a full ring takes keys again when some have gone.
func TestP5_7FullIsNotForEver(t *testing.T) {
	full := fullRing(8, 9)
	pruned := ring.Prune(full, 10)
	cut, _ := ring.Distrust(full, 3, s)
	for _, r := range []api.Ring{pruned, cut} {
		got, e := ring.Rotate(r, v, 5)
		if e != api.OK || len(got.Keys) != 8 {
			t.Errorf("Rotate of %v: %v, %d", r, got, e)
		}
		got, e = ring.Rotate(got, v, 5)
		wantRefused(t, "full again", got, e, api.ErrRingFull)
	}
	if again, _ := ring.Distrust(full, 8, v); len(again.Keys) != 8 || again.Keys[7] != key(9, v, 0) {
		t.Errorf("Distrust of the current one of a full ring: %v", again)
	}
}
