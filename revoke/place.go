package revoke

import (
	"bytes"
	"slices"

	"postern/api"
)

// place tells how many of a sorted row's items stand ahead of a place that is sought: ahead holds for these and for none behind them.
func place[E any](row []E, ahead func(E) bool) int {
	low, high := 0, len(row)
	for low < high {
		mid := low + (high-low)/2
		if ahead(row[mid]) {
			low = mid + 1
		} else {
			high = mid
		}
	}
	return low
}

// span tells where a grant's entries begin and end.
func span(l []api.Revoked, grant uint64) (from, to int) {
	from = place(l, func(r api.Revoked) bool { return r.Grant < grant })
	to = from + place(l[from:], func(r api.Revoked) bool { return r.Grant == grant })
	return from, to
}

// placeOf tells the place of an ID among one grant's entries.
func placeOf(own []api.Revoked, id api.ID) int {
	return place(own, func(r api.Revoked) bool { return bytes.Compare(r.ID[:], id[:]) < 0 })
}

// isWhole tells whether one grant's entries are the one of the whole grant, which has none beside it.
func isWhole(own []api.Revoked) bool { return len(own) == 1 && own[0].Whole }

// mayFollow tells whether b may stand next behind a in a list.
func mayFollow(a, b api.Revoked) bool {
	if a.Grant != b.Grant {
		return a.Grant < b.Grant
	}
	return !a.Whole && !b.Whole && bytes.Compare(a.ID[:], b.ID[:]) < 0
}

// with tells a new list: what stands ahead of an entry, the entry, what stands behind.
func with(ahead []api.Revoked, r api.Revoked, behind []api.Revoked) []api.Revoked {
	return slices.Concat(ahead, []api.Revoked{r}, behind)
}
