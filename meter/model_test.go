package meter_test

import (
	"math"
	"math/big"
	"math/rand"
	"testing"

	"postern/api"
)

const (
	first = math.MinInt64
	last  = math.MaxInt64
	least = math.SmallestNonzeroFloat64
)

func lock(half int64, limit float64) api.Lock {
	return api.Lock{Half: half, Limit: math.Float64bits(limit)}
}

func at(score float64, t int64) api.Meter {
	return api.Meter{Score: math.Float64bits(score), At: t}
}

func score(m api.Meter) float64 { return math.Float64frombits(m.Score) }

func whole(n int64) *big.Int { return big.NewInt(n) }

func fits(n *big.Int) bool { return n.IsInt64() }

// rounded tells the float nearest to an exact number, ties to even.
func rounded(x *big.Rat) float64 {
	f, _ := x.Float64()
	return f
}

func exact(f float64) *big.Rat { return new(big.Rat).SetFloat64(f) }

// wantedHalf halves a score by its bits alone: a normal one loses 1 of its exponent, of the others a number of least ones is halved, ties to even.
func wantedHalf(s float64) float64 {
	b := math.Float64bits(s)
	if b >= 2<<52 {
		return math.Float64frombits(b - 1<<52)
	}
	return math.Float64frombits(b>>1 + b&(b>>1)&1)
}

// wantedNow is P8.2 in exact numbers, a halving at a time.
func wantedNow(c api.Lock, m api.Meter, now int64) api.Meter {
	if now <= m.At {
		return m
	}
	d := new(big.Int).Sub(whole(now), whole(m.At))
	k := new(big.Int).Div(d, whole(c.Half))
	s := score(m)
	for i := int64(0); s != 0 && whole(i).Cmp(k) < 0; i++ {
		s = wantedHalf(s)
	}
	t := new(big.Int).Add(whole(m.At), k.Mul(k, whole(c.Half)))
	return at(s, t.Int64())
}

func wantedFail(c api.Lock, m api.Meter, now int64) api.Meter {
	n := wantedNow(c, m, now)
	return at(rounded(new(big.Rat).Add(exact(score(n)), big.NewRat(1, 1))), n.At)
}

func wantedPass(c api.Lock, m api.Meter, now int64) api.Meter {
	n := wantedNow(c, m, now)
	return at(rounded(new(big.Rat).Mul(exact(score(n)), big.NewRat(1, 4))), n.At)
}

// below holds two floats that are not below 0 against each other by their bits, which stand in the same order.
func below(a, b uint64) bool { return a < b }

func wantedLocked(c api.Lock, m api.Meter, now int64) bool {
	return !below(wantedNow(c, m, now).Score, c.Limit)
}

// wantedWait goes from the end of one half-life to the next, in exact numbers, beyond the end of time if it must.
func wantedWait(c api.Lock, m api.Meter, now int64) (int64, bool) {
	n := wantedNow(c, m, now)
	s, t, w := score(n), whole(n.At), whole(0)
	for !below(math.Float64bits(s), c.Limit) {
		s = wantedHalf(s)
		t.Add(t, whole(c.Half))
		w.Sub(t, whole(now))
	}
	if !fits(w) || !fits(new(big.Int).Add(whole(now), w)) {
		return 0, false
	}
	return w.Int64(), true
}

// someScores: small and great ones, and those at the edges of what floats there are.
func someScores() []float64 {
	return []float64{
		0, least, 2 * least, 3 * least, 5 * least, 7 * least, 11 * least, 0x1p-1022, 0x1p-1022 - least, 0x1.fffffffffffffp-1022, 0x1.0000000000001p-1021,
		0.1, 0.25, 0.75, 1 - 0x1p-53, 1, 1 + 0x1p-52, 1.5, 2, 2.999999999, 3, math.Nextafter(3, 0), math.Nextafter(3, 4), 4, 6, 12, 1000,
		0x1p52 + 0.5, 0x1p53 - 1, 0x1p53, 0x1p53 + 2, 0x1p54, 0x1p1000, 0x1p1023, math.Nextafter(math.MaxFloat64, 0), math.MaxFloat64,
	}
}

func someLimits() []float64 {
	return []float64{1, 1 + 0x1p-52, 1.5, 2, 3, 5, 0x1p53, 0x1p1023, math.MaxFloat64}
}

func someHalves() []int64 {
	return []int64{1, 2, 3, 10, 1 << 32, 1 << 53, 1<<53 + 1, 1 << 62, last - 1, last}
}

func someTimes() []int64 {
	return []int64{first, first + 1, first + 9, first / 2, -1 << 53, -1000, -10, -1, 0, 1, 4, 9, 10, 11, 29, 30, 1000, 1<<53 + 1, last / 2, last/2 + 1, last - 10, last - 5, last - 1, last}
}

// aScore tells a float from all of them, each exponent as often as another one, or a small one.
func aScore(r *rand.Rand) float64 {
	switch r.Intn(3) {
	case 0:
		return float64(r.Intn(40)) / 4
	case 1:
		return float64(r.Intn(1<<10)) * least
	}
	return math.Float64frombits(r.Uint64() % math.Float64bits(math.Inf(1)))
}

func aLimit(r *rand.Rand) float64 {
	if r.Intn(2) == 0 {
		return 1 + float64(r.Intn(20))/4
	}
	low, end := math.Float64bits(1), math.Float64bits(math.Inf(1))
	return math.Float64frombits(low + r.Uint64()%(end-low))
}

// aTime tells a time from all of them, or one near the edges, or near 0.
func aTime(r *rand.Rand) int64 {
	near := r.Int63n(100)
	return []int64{int64(r.Uint64()), near, -near, first + near, last - near}[r.Intn(5)]
}

func aHalf(r *rand.Rand) int64 {
	switch r.Intn(3) {
	case 0:
		return 1 + r.Int63n(20)
	case 1:
		return last - r.Int63n(20)
	}
	return 1 + r.Int63()>>r.Intn(62)
}

// each asks for the scores and half-lives of the lists above at some of the times, and for thousands of others, at the end of half-lives and just ahead of it among them.
func each(t *testing.T, ask func(c api.Lock, m api.Meter, now int64)) {
	t.Helper()
	r := rand.New(rand.NewSource(8))
	times := someTimes()
	for _, s := range someScores() {
		for _, half := range someHalves() {
			for range 12 {
				c := lock(half, someLimits()[r.Intn(len(someLimits()))])
				ask(c, at(s, times[r.Intn(len(times))]), times[r.Intn(len(times))])
			}
		}
	}
	for range 4000 {
		c, m := lock(aHalf(r), aLimit(r)), at(aScore(r), aTime(r))
		ask(c, m, aTime(r))
		ask(c, m, m.At)
		end := m.At
		for range 1 + r.Intn(5) {
			end = later(end, c.Half)
		}
		ask(c, m, end)
		ask(c, m, max(end, first+1)-1)
	}
}

// later tells a time so far behind another, or the last one of all.
func later(t, far int64) int64 {
	if t > last-far {
		return last
	}
	return t + far
}
