package meter_test

import (
	"math"
	"testing"

	"postern/api"
	"postern/meter"
)

func TestP8_1Check(t *testing.T) {
	for _, half := range []int64{1, 2, 10, 1 << 40, last} {
		for _, limit := range append(someLimits(), math.Nextafter(1, 2), 3.25) {
			if e := meter.Check(lock(half, limit)); e != api.OK {
				t.Errorf("Half %d, Limit %v: %d", half, limit, e)
			}
		}
	}
}

func badLimits() []uint64 {
	bits := []uint64{1 << 63, 0x7ff0000000000001, 0x7ff8000000000000, 0xfff8000000000001, math.MaxUint64, math.MaxInt64}
	for _, f := range []float64{0, least, 0.5, 0.999, math.Nextafter(1, 0), -least, -1, -3, -math.MaxFloat64, math.Inf(1), math.Inf(-1), math.NaN()} {
		bits = append(bits, math.Float64bits(f))
	}
	return bits
}

func badHalves() []int64 { return []int64{0, -1, -10, first + 1, first} }

func TestP8_1Refused(t *testing.T) {
	for _, half := range badHalves() {
		for _, limit := range someLimits() {
			if e := meter.Check(lock(half, limit)); e != api.ErrMeterConfig {
				t.Errorf("Half %d, Limit %v: %d", half, limit, e)
			}
		}
	}
	for _, limit := range badLimits() {
		for _, half := range append(someHalves(), badHalves()...) {
			if e := meter.Check(api.Lock{Half: half, Limit: limit}); e != api.ErrMeterConfig {
				t.Errorf("Half %d, the limit's bits %x: %d", half, limit, e)
			}
		}
	}
	if api.ErrMeterConfig != 80 || meter.Check(api.Lock{}) != 80 {
		t.Errorf("the zero configuration: %d", meter.Check(api.Lock{}))
	}
}
