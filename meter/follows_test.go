package meter_test

import (
	"math"
	"math/rand"
	"testing"

	"postern/api"
	"postern/meter"
)

// TestP8_6Later: whoever looks between changes nothing.
func TestP8_6Later(t *testing.T) {
	r := rand.New(rand.NewSource(6))
	each(t, func(c api.Lock, m api.Meter, now int64) {
		n := meter.Now(c, m, now)
		for _, then := range []int64{now, last, later(now, r.Int63n(40)), max(now, aTime(r))} {
			if got, want := meter.Now(c, n, then), meter.Now(c, m, then); got != want {
				t.Fatalf("%v, %v at %d, then at %d: %v, not %v", c, m, now, then, got, want)
			}
		}
	})
}

func isScore(m api.Meter) bool {
	s := score(m)
	return !math.Signbit(s) && s <= math.MaxFloat64
}

// TestP8_6Bounds: scores stay scores; a failure never makes one less, a success never more.
func TestP8_6Bounds(t *testing.T) {
	each(t, func(c api.Lock, m api.Meter, now int64) {
		n, f, p := meter.Now(c, m, now), meter.Fail(c, m, now), meter.Pass(c, m, now)
		if !isScore(n) || !isScore(f) || !isScore(p) {
			t.Fatalf("%v, %v at %d: %v, %v, %v", c, m, now, n, f, p)
		}
		if score(f) < score(n) || score(p) > score(n) || score(n) > score(m) {
			t.Fatalf("%v, %v at %d: Now %v, Fail %v, Pass %v", c, m, now, n, f, p)
		}
		if f.At != n.At || p.At != n.At || n.At > max(now, m.At) || n.At < m.At {
			t.Fatalf("%v, %v at %d: Now %v, Fail %v, Pass %v", c, m, now, n, f, p)
		}
	})
}

// TestP8_6Wait: locked till the wait is over, and not then.
func TestP8_6Wait(t *testing.T) {
	r := rand.New(rand.NewSource(7))
	each(t, func(c api.Lock, m api.Meter, now int64) {
		w, there := meter.Wait(c, m, now)
		if meter.Locked(c, m, now) == (there && w == 0) {
			t.Fatalf("%v, %v at %d: locked %v, wait %d, %v", c, m, now, meter.Locked(c, m, now), w, there)
		}
		if !there {
			if w != 0 || !meter.Locked(c, m, later(now, last)) {
				t.Fatalf("%v, %v at %d: %d, false", c, m, now, w)
			}
			return
		}
		if meter.Locked(c, m, now+w) {
			t.Fatalf("%v, %v at %d: locked behind %d", c, m, now, w)
		}
		if w > 0 && (!meter.Locked(c, m, now+w-1) || !meter.Locked(c, m, now+r.Int63n(w))) {
			t.Fatalf("%v, %v at %d: not locked within %d", c, m, now, w)
		}
	})
}

// TestP8_6Alike: a walk of many calls, held against the model, and against a second meter that goes the same way.
func TestP8_6Alike(t *testing.T) {
	r := rand.New(rand.NewSource(9))
	for range 300 {
		c, now := lock(1+r.Int63n(30), 1+float64(r.Intn(30))/4), aTime(r)
		m := at(aScore(r), now)
		same, want := m, m
		for range 40 {
			now = later(now, r.Int63n(60))
			switch r.Intn(3) {
			case 0:
				m, same, want = meter.Now(c, m, now), meter.Now(c, same, now), wantedNow(c, want, now)
			case 1:
				m, same, want = meter.Fail(c, m, now), meter.Fail(c, same, now), wantedFail(c, want, now)
			case 2:
				m, same, want = meter.Pass(c, m, now), meter.Pass(c, same, now), wantedPass(c, want, now)
			}
			if m != want || same != want || !isScore(m) {
				t.Fatalf("%v at %d: %v and %v, not %v", c, now, m, same, want)
			}
		}
	}
}

// TestP8_7Ends: no call panics or stays away, whatever is handed in and however far now is.
func TestP8_7Ends(t *testing.T) {
	scores := []uint64{1 << 63, math.MaxUint64, 0x7ff0000000000001}
	for _, f := range append(someScores(), -1, -least, -math.MaxFloat64, math.Inf(1), math.Inf(-1), math.NaN()) {
		scores = append(scores, math.Float64bits(f))
	}
	limits := badLimits()
	for _, f := range someLimits() {
		limits = append(limits, math.Float64bits(f))
	}
	r := rand.New(rand.NewSource(10))
	for _, half := range append(someHalves(), badHalves()...) {
		for _, limit := range limits {
			for _, s := range scores {
				c := api.Lock{Half: half, Limit: limit}
				everyCall(c, api.Meter{Score: s, At: first}, last)
				everyCall(c, api.Meter{Score: s, At: aTime(r)}, aTime(r))
			}
		}
	}
}

func everyCall(c api.Lock, m api.Meter, now int64) {
	meter.Check(c)
	meter.Now(c, m, now)
	meter.Fail(c, m, now)
	meter.Pass(c, m, now)
	meter.Locked(c, m, now)
	meter.Wait(c, m, now)
}

// TestP8_7Again: an answer hangs on what is handed in alone, whatever was asked between.
func TestP8_7Again(t *testing.T) {
	c, m := lock(10, 3), at(12, 0)
	for range 3 {
		wantMeter(t, "Now", meter.Now(c, m, 25), at(3, 20))
		wantMeter(t, "Fail", meter.Fail(c, m, 25), at(4, 20))
		wantMeter(t, "Pass", meter.Pass(c, m, 25), at(0.75, 20))
		wantWait(t, waiting{10, 3, m, 25, 5, true})
		everyCall(api.Lock{}, api.Meter{Score: math.MaxUint64, At: last}, first)
		everyCall(lock(last, math.MaxFloat64), at(math.MaxFloat64, first), last)
	}
}
