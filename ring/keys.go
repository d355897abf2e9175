package ring

import (
	"math"
	"slices"

	"postern/api"
)

// The first kid; and the number that a ring's Next may be, but no key's kid: behind it there would be no Next.
const (
	firstKid  = 1
	endOfKids = math.MaxInt64
)

// goodKeys tells whether these are as many keys as a ring has, with rising kids, the last one the current one alone.
func goodKeys(keys []api.Key) bool {
	if len(keys) == 0 || len(keys) > api.MaxKeys {
		return false
	}
	ahead := uint64(firstKid - 1)
	for i, k := range keys {
		if k.Kid <= ahead || !goodUntil(k.Until, i == len(keys)-1) {
			return false
		}
		ahead = k.Kid
	}
	return true
}

func goodUntil(until int64, current bool) bool {
	if current {
		return until == 0
	}
	return until > 0
}

// last tells the last one of keys of which there is one at least.
func last(keys []api.Key) api.Key { return keys[len(keys)-1] }

// look tells the first key that is wanted, if there is one.
func look(keys []api.Key, wanted func(api.Key) bool) (api.Key, bool) {
	i := slices.IndexFunc(keys, wanted)
	if i < 0 {
		return api.Key{}, false
	}
	return keys[i], true
}

// without tells, in memory of its own, the keys that do not go.
func without(keys []api.Key, goes func(api.Key) bool) []api.Key {
	left := make([]api.Key, 0, len(keys))
	for _, k := range keys {
		if !goes(k) {
			left = append(left, k)
		}
	}
	return left
}

// withCurrent tells the ring of these keys and a current one behind them. It keeps keys: they are nobody else's.
func withCurrent(keys []api.Key, kid uint64, secret [32]byte) api.Ring {
	return api.Ring{Keys: append(keys, api.Key{Kid: kid, Secret: secret}), Next: kid + 1}
}
