package meter_test

import (
	"math"
	"testing"

	"postern/api"
	"postern/meter"
)

func TestP8_4Locked(t *testing.T) {
	for _, x := range []struct {
		limit, score float64
		at, now      int64
		want         bool
	}{
		{3, 3, 0, 9, true},
		{3, 3, 0, 10, false},
		{3, 3, 0, -100, true},
		{3, 3, last, first, true},
		{3, math.Nextafter(3, 0), 0, 0, false},
		{3, math.Nextafter(3, 4), 0, 0, true},
		{3, 4, 0, 9, true},
		{3, 4, 0, 10, false},
		{3, 12, 0, 29, true},
		{3, 12, 0, 30, false},
		{3, 0, 0, 0, false},
		{1, 1, 0, 0, true},
		{1, math.Nextafter(1, 0), 0, 0, false},
		{3, math.MaxFloat64, 0, 10220, true},
		{3, math.MaxFloat64, 0, 10230, false},
		{math.MaxFloat64, math.MaxFloat64, 0, 9, true},
		{math.MaxFloat64, math.MaxFloat64, 0, 10, false},
		{math.MaxFloat64, math.Nextafter(math.MaxFloat64, 0), 0, 0, false},
		{3, math.MaxFloat64, first, last, false},
	} {
		if got := meter.Locked(lock(10, x.limit), at(x.score, x.at), x.now); got != x.want {
			t.Errorf("limit %v, {%v, %d} at %d: %v", x.limit, x.score, x.at, x.now, got)
		}
	}
}

func TestP8_4Model(t *testing.T) {
	each(t, func(c api.Lock, m api.Meter, now int64) {
		if got, want := meter.Locked(c, m, now), wantedLocked(c, m, now); got != want {
			t.Fatalf("Locked(%v, %v, %d): %v", c, m, now, got)
		}
	})
}

type waiting struct {
	half  int64
	limit float64
	m     api.Meter
	now   int64
	wait  int64
	there bool
}

func wantWait(t *testing.T, x waiting) {
	t.Helper()
	if w, there := meter.Wait(lock(x.half, x.limit), x.m, x.now); w != x.wait || there != x.there {
		t.Errorf("half %d, limit %v, {%v, %d} at %d: %d, %v, not %d, %v", x.half, x.limit, score(x.m), x.m.At, x.now, w, there, x.wait, x.there)
	}
}

func TestP8_5Wait(t *testing.T) {
	for _, x := range []waiting{
		{10, 3, at(3, 0), 9, 1, true},
		{10, 3, at(3, 0), 4, 6, true},
		{10, 3, at(3, 0), 0, 10, true},
		{10, 3, at(3, 0), -7, 17, true},
		{10, 3, at(3, 0), 10, 0, true},
		{10, 3, at(4, 0), 0, 10, true},
		{10, 3, at(12, 0), 0, 30, true},
		{10, 3, at(12, 0), 15, 15, true},
		{10, 3, at(12, 0), 29, 1, true},
		{10, 3, at(12, 0), 30, 0, true},
		{10, 3, at(12, 5), 29, 6, true},
		{10, 3, at(0, 0), 0, 0, true},
		{10, 3, at(math.Nextafter(3, 0), 0), -100, 0, true},
		{1, 1, at(1, 0), 0, 1, true},
		{1, 1, at(math.MaxFloat64, 0), 0, 1024, true},
		{1, math.MaxFloat64, at(math.MaxFloat64, 0), 0, 1, true},
	} {
		wantWait(t, x)
	}
}

// TestP8_5End: neither the wait nor its end may be beyond int64; each edge from both sides.
func TestP8_5End(t *testing.T) {
	for _, x := range []waiting{
		{10, 3, at(3, last-4), last, 0, false},
		{10, 3, at(3, last-10), last - 1, 1, true},
		{10, 3, at(3, last-10), last, 0, true},
		{10, 3, at(3, last-9), last, 0, false},
		{10, 3, at(3, last-9), last - 9, 0, false},
		{10, 3, at(3, last-9), first, 0, false},
		{10, 3, at(2, last), last, 0, true},
		{10, 3, at(3, last), last, 0, false},
		{10, 3, at(12, last-30), last - 30, 30, true},
		{10, 3, at(12, last-29), last - 30, 0, false},
		{10, 3, at(3, -11), first, last, true},
		{10, 3, at(3, -10), first, 0, false},
		{10, 3, at(3, -10), first + 1, last, true},
		{10, 3, at(2, last), first, 0, true},
		{last, 3, at(3, 0), 0, last, true},
		{last, 3, at(3, 1), 1, 0, false},
		{last, 3, at(3, -1), -1, last, true},
		{last, 3, at(3, -1), -2, 0, false},
		{last, 3, at(6, first), first, 0, false},
		{last, 3, at(6, first), first + 1, 0, false},
		{last, 3, at(6, first), -1, last, true},
		{last, 3, at(6, first), last - 2, 1, true},
		{last, 3, at(12, first), first, 0, false},
		{last, 1, at(math.MaxFloat64, first), first, 0, false},
		{last, 1, at(math.MaxFloat64, first), last, 0, false},
		{1 << 62, 3, at(6, first), first, 0, false},
		{1 << 62, 3, at(6, first), first + 1, last, true},
		{1 << 62, 3, at(24, first), first, 0, false},
		{1 << 62, 3, at(23, first), 0, 1 << 62, true},
		{1 << 62, 3, at(24, first), 0, 0, false},
		{1 << 55, 1, at(0x1p1023, 0), 0, 0, false}, // 2^10 half-lives: 2^65, which is 0 in 64 bits
		{1 << 54, 1, at(0x1p1023, first), first, 0, false},
	} {
		wantWait(t, x)
	}
}

func TestP8_5Model(t *testing.T) {
	each(t, func(c api.Lock, m api.Meter, now int64) {
		got, there := meter.Wait(c, m, now)
		if want, ok := wantedWait(c, m, now); got != want || there != ok {
			t.Fatalf("Wait(%v, %v, %d): %d, %v, not %d, %v", c, m, now, got, there, want, ok)
		}
	})
}

// TestP8_5Least: the first time that is not locked, looked for one by one.
func TestP8_5Least(t *testing.T) {
	for half := int64(1); half <= 7; half++ {
		for n := range 40 {
			for now := int64(-9); now <= 30; now++ {
				c, m := lock(half, 1.75), at(float64(n)/4, 3)
				w := int64(0)
				for wantedLocked(c, m, now+w) {
					w++
				}
				wantWait(t, waiting{half, 1.75, m, now, w, true})
			}
		}
	}
}
