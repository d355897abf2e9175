package meter

import (
	"math"

	"postern/api"
)

// What changes a score: each of these is half of the one ahead of it.
const (
	one     float64 = 1.0 / (1 << iota) // a failure adds it
	half                                // the score is multiplied by it at the end of a half-life
	quarter                             // the score is multiplied by it at a success
)

// mostHalvings is enough for every score: the greatest float is 0 behind 2099, and 0 stays 0.
const mostHalvings = 2100

func scoreOf(m api.Meter) float64 { return math.Float64frombits(m.Score) }

func meterOf(score float64, at int64) api.Meter {
	return api.Meter{Score: math.Float64bits(score), At: at}
}

// halve converts what it tells, so that no compiler makes one step of it and the next, rounded but once.
func halve(score float64) float64 { return float64(score * half) }

func halved(score float64, k uint64) float64 {
	for range min(k, mostHalvings) {
		score = halve(score)
	}
	return score
}

// halvingsBelow tells how many halvings bring a score below a limit. It ends even where none do, as of an infinite score.
func halvingsBelow(limit, score float64) uint64 {
	k := uint64(0)
	for k < mostHalvings && score >= limit {
		score = halve(score)
		k++
	}
	return k
}
