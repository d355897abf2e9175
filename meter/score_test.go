package meter_test

import (
	"math"
	"testing"

	"postern/api"
	"postern/meter"
)

func wantMeter(t *testing.T, what string, got, want api.Meter) {
	t.Helper()
	if got != want {
		t.Errorf("%s: {%v, %d}, not {%v, %d}", what, score(got), got.At, score(want), want.At)
	}
}

func TestP8_2Now(t *testing.T) {
	c := lock(10, 3)
	for _, x := range []struct {
		what string
		m    api.Meter
		now  int64
		want api.Meter
	}{
		{"ahead of it", at(3, 0), -5, at(3, 0)},
		{"long ahead of it", at(3, last), first, at(3, last)},
		{"at its time", at(3, 0), 0, at(3, 0)},
		{"within the first half-life", at(3, 0), 9, at(3, 0)},
		{"at the end of it", at(3, 0), 10, at(1.5, 10)},
		{"within the third", at(3, 0), 25, at(0.75, 20)},
		{"from a time of its own", at(3, 7), 16, at(3, 7)},
		{"at the end of that", at(3, 7), 17, at(1.5, 17)},
		{"from below 0", at(3, -7), 2, at(3, -7)},
		{"over 0", at(3, -7), 3, at(1.5, 3)},
		{"0 stays 0, its time goes on", at(0, 0), 35, at(0, 30)},
		{"the least numbers, thrice", at(11*least, 0), 30, at(2*least, 30)},
		{"once", at(11*least, 0), 10, at(6*least, 10)},
		{"twice", at(11*least, 0), 20, at(3*least, 20)},
		{"the least number of all", at(least, 0), 10, at(0, 10)},
		{"thrice that", at(3*least, 0), 10, at(2*least, 10)},
		{"five times that", at(5*least, 0), 10, at(2*least, 10)},
		{"a normal number becomes none", at(0x1.0000000000001p-1022, 0), 10, at(0x1p-1023, 10)},
		{"the greatest number", at(math.MaxFloat64, 0), 10, at(0x1.fffffffffffffp1022, 10)},
		{"all of time", at(0, first), last, at(0, last-math.MaxUint64%10)},
	} {
		wantMeter(t, x.what, meter.Now(c, x.m, x.now), x.want)
	}
}

// TestP8_2Far: a half-life may be as long as time goes, and time as long as half-lives may be many.
func TestP8_2Far(t *testing.T) {
	wantMeter(t, "half of time", meter.Now(lock(last, 3), at(3, first), -2), at(3, first))
	wantMeter(t, "one half-life of it", meter.Now(lock(last, 3), at(3, first), -1), at(1.5, -1))
	wantMeter(t, "not yet two", meter.Now(lock(last, 3), at(3, first), last-2), at(1.5, -1))
	wantMeter(t, "two", meter.Now(lock(last, 3), at(3, first), last-1), at(0.75, last-1))
	wantMeter(t, "and a bit", meter.Now(lock(last, 3), at(3, first), last), at(0.75, last-1))
	wantMeter(t, "as many as there are", meter.Now(lock(1, 3), at(math.MaxFloat64, first), last), at(0, last))
	wantMeter(t, "by two", meter.Now(lock(2, 3), at(1, first), last), at(0, last-1))
	wantMeter(t, "2^53 + 1 a half-life", meter.Now(lock(1<<53+1, 3), at(1, -1), 1<<54+1), at(0.25, 1<<54+1))
}

// TestP8_2Last: the greatest score is the last one to become 0, and none does so too early.
func TestP8_2Last(t *testing.T) {
	c := lock(1, 3)
	for _, x := range []struct {
		s float64
		k int64
	}{{math.MaxFloat64, 2098}, {0x1p1023, 2097}, {1, 1074}, {0x1p-1022, 52}, {3 * least, 2}, {2 * least, 1}, {least, 0}} {
		wantMeter(t, "the last but one", meter.Now(c, at(x.s, 0), x.k), at(least, x.k))
		for _, far := range []int64{1, 2, 3, 1000, 1 << 40} {
			wantMeter(t, "behind it", meter.Now(c, at(x.s, 0), x.k+far), at(0, x.k+far))
		}
	}
}

func TestP8_2Model(t *testing.T) {
	each(t, func(c api.Lock, m api.Meter, now int64) {
		if got, want := meter.Now(c, m, now), wantedNow(c, m, now); got != want {
			t.Fatalf("Now(%v, %v, %d): %v, not %v", c, m, now, got, want)
		}
	})
}

func TestP8_3Fail(t *testing.T) {
	c := lock(10, 3)
	m := meter.Fail(c, api.Meter{}, 4)
	wantMeter(t, "the first", m, at(1, 0))
	m = meter.Fail(c, m, 9)
	wantMeter(t, "the second", m, at(2, 0))
	wantMeter(t, "the third", meter.Fail(c, m, 9), at(3, 0))
	wantMeter(t, "the third, later", meter.Fail(c, m, 10), at(2, 10))
	wantMeter(t, "the third, later still", meter.Fail(c, m, 25), at(1.5, 20))
	wantMeter(t, "ahead of it", meter.Fail(c, at(2, 50), -50), at(3, 50))
	wantMeter(t, "of the least number", meter.Fail(c, at(least, 0), 0), at(1, 0))
	wantMeter(t, "that 1 is rounded away in", meter.Fail(c, at(0x1p53, 0), 0), at(0x1p53, 0))
	wantMeter(t, "that 1 is rounded up in", meter.Fail(c, at(0x1p53+2, 0), 0), at(0x1p53+4, 0))
	wantMeter(t, "the halving rounded ahead of it", meter.Fail(c, at(0x1p54+4, 0), 10), at(0x1p53+4, 10))
	wantMeter(t, "of the greatest number", meter.Fail(c, at(math.MaxFloat64, 0), 0), at(math.MaxFloat64, 0))
}

func TestP8_3Pass(t *testing.T) {
	c := lock(10, 3)
	wantMeter(t, "of nothing", meter.Pass(c, api.Meter{}, 4), at(0, 0))
	wantMeter(t, "at once", meter.Pass(c, at(3, 0), 9), at(0.75, 0))
	wantMeter(t, "halved twice", meter.Pass(c, at(3, 0), 25), at(0.1875, 20))
	wantMeter(t, "ahead of it", meter.Pass(c, at(3, 0), -5), at(0.75, 0))
	wantMeter(t, "of the greatest number", meter.Pass(c, at(math.MaxFloat64, 0), 0), at(0x1.fffffffffffffp1021, 0))
	for i, want := range []float64{0, 0, 0, 1, 1, 1, 2, 2, 2, 2, 2, 3, 3, 3, 4, 4} {
		wantMeter(t, "of the least numbers", meter.Pass(c, at(float64(i)*least, 0), 0), at(want*least, 0))
	}
}

func TestP8_3Model(t *testing.T) {
	each(t, func(c api.Lock, m api.Meter, now int64) {
		if got, want := meter.Fail(c, m, now), wantedFail(c, m, now); got != want {
			t.Fatalf("Fail(%v, %v, %d): %v, not %v", c, m, now, got, want)
		}
		if got, want := meter.Pass(c, m, now), wantedPass(c, m, now); got != want {
			t.Fatalf("Pass(%v, %v, %d): %v, not %v", c, m, now, got, want)
		}
	})
}
