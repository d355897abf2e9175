package meter

import (
	"math"

	"postern/api"
)

// halfLife is never 0, whatever is handed in: it is divided by.
func halfLife(c api.Lock) uint64 { return uint64(max(c.Half, 1)) }

// between tells how far a time is from one that is not later. Two times can be further from each other than int64 goes, but not than uint64 does.
func between(from, to int64) uint64 { return uint64(to) - uint64(from) }

// behind tells the time so far behind another; it must be one of int64.
func behind(at int64, far uint64) int64 { return int64(uint64(at) + far) }

// unlocks tells when a meter that is locked is so no more, if int64 has that time.
func unlocks(c api.Lock, m api.Meter) (int64, bool) {
	k := halvingsBelow(math.Float64frombits(c.Limit), scoreOf(m))
	if k > between(m.At, math.MaxInt64)/halfLife(c) {
		return 0, false
	}
	return behind(m.At, k*halfLife(c)), true
}
