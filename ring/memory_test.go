package ring_test

import (
	"math"
	"math/rand"
	"slices"
	"testing"

	"postern/api"
	"postern/ring"
)

// everyCall tells the rings that the calls answer of one.
func everyCall(r api.Ring, kid uint64, number int64) []api.Ring {
	ring.Check(r)
	ring.Current(r)
	ring.Find(r, kid)
	rotated, _ := ring.Rotate(r, v, number)
	distrusted, _ := ring.Distrust(r, kid, v)
	return []api.Ring{rotated, distrusted, ring.Prune(r, number)}
}

func spoil(list []api.Key) {
	list = list[:cap(list)]
	for i := range list {
		list[i] = key(99, [32]byte{99}, 99)
	}
}

// TestP5_8HandedIn: what is handed in is not changed, nor is the room behind it.
func TestP5_8HandedIn(t *testing.T) {
	rings := goodRings()
	for what, r := range noRings() {
		rings[what] = r
	}
	for what, r := range rings {
		room := append(slices.Clone(r.Keys), key(7, s, 7), key(8, u, 8), key(9, v, 9))
		kept := slices.Clone(room)
		for _, kid := range []uint64{0, 1, 2, 3, 5, 8, top - 1} {
			for _, number := range []int64{-1, 1, 10, 50, top} {
				everyCall(api.Ring{Keys: room[:len(r.Keys)], Next: r.Next}, kid, number)
			}
		}
		if !slices.Equal(room, kept) {
			t.Errorf("%s: %v became %v", what, kept, room)
		}
	}
}

// TestP5_8Told: what is told is the caller's own: it has nothing in common with what was handed in, nor with another answer.
func TestP5_8Told(t *testing.T) {
	for what, r := range goodRings() {
		for _, number := range []int64{1, 50, top} {
			for _, kid := range []uint64{1, r.Keys[len(r.Keys)-1].Kid} {
				wantApart(t, what, r, kid, number)
			}
		}
	}
	a, b := ring.First(s), ring.First(s)
	spoil(a.Keys)
	wantRing(t, "another First", b, keys(2, key(1, s, 0)))
	wantRing(t, "First once more", ring.First(s), keys(2, key(1, s, 0)))
}

func wantApart(t *testing.T, what string, r api.Ring, kid uint64, number int64) {
	t.Helper()
	in := api.Ring{Keys: slices.Grow(slices.Clone(r.Keys), 4), Next: r.Next}
	want := everyCall(r, kid, number)
	got := everyCall(in, kid, number)
	again := everyCall(in, kid, number)
	for i := range again {
		spoil(again[i].Keys)
	}
	wantRing(t, what+": behind a change of answers", in, r)
	spoil(in.Keys)
	for i := range got {
		wantRing(t, what+": behind a change of what was handed in", got[i], want[i])
		spoil(got[i].Keys)
		for j := i + 1; j < len(got); j++ {
			wantRing(t, what+": behind a change of another answer", got[j], want[j])
		}
	}
}

// TestP5_8Place: the same memory with other contents is another ring.
func TestP5_8Place(t *testing.T) {
	room := []api.Key{key(1, s, 50), key(2, u, 0)}
	r := api.Ring{Keys: room, Next: 9}
	if k, there := ring.Find(r, 1); !there || k != key(1, s, 50) {
		t.Errorf("Find 1: %v, %v", k, there)
	}
	room[0], room[1] = key(5, v, 60), key(6, s, 0)
	if k, there := ring.Find(r, 1); there || k != (api.Key{}) {
		t.Errorf("Find 1 of what was there before: %v", k)
	}
	if k, there := ring.Current(r); !there || k != key(6, s, 0) {
		t.Errorf("Current: %v, %v", k, there)
	}
	room[1].Until = 1
	if ring.Check(r) != api.ErrRingForm {
		t.Errorf("%v is no ring", r)
	}
}

// TestP5_8Ends: no call panics, whatever is handed in.
func TestP5_8Ends(t *testing.T) {
	r := rand.New(rand.NewSource(1))
	kids := []uint64{0, 1, 2, 3, top - 1, top, 1 << 63, math.MaxUint64}
	numbers := []int64{math.MinInt64, -1, 0, 1, 2, top}
	for range 20000 {
		a := api.Ring{Next: kids[r.Intn(len(kids))]}
		for range r.Intn(11) {
			a.Keys = append(a.Keys, key(kids[r.Intn(len(kids))], s, numbers[r.Intn(len(numbers))]))
		}
		for _, got := range everyCall(a, kids[r.Intn(len(kids))], numbers[r.Intn(len(numbers))]) {
			if !wantedForm(got) && (len(got.Keys) != 0 || got.Next != 0) {
				t.Errorf("of %v: %v, neither a ring nor the zero ring", a, got)
			}
		}
	}
	everyCall(fullRing(1<<16, 1<<17), 1, 1)
}
