package store

import (
	"postern/api"
	"postern/record"
)

// numberWidth is how wide a snapshot's number is laid.
const numberWidth = 8

// nextSnap tells the snapshot of the pairs, with the next number: its head, and behind it each pair, all of them in frames.
func (s *Store) nextSnap() []byte {
	snap := frame(func(w *record.Writer) {
		w.Num(s.number+1, numberWidth)
		w.Num(uint64(s.Len()), countWidth)
	})
	for key, value := range s.Range(nil, nil) {
		snap = append(snap, frame(func(w *record.Writer) {
			w.Bytes(key)
			w.Bytes(value)
		})...)
	}
	return snap
}

// frame tells the frame of what is laid. Nothing of a snapshot is too long for a field, or for a frame.
func frame(lay func(*record.Writer)) []byte {
	var w record.Writer
	lay(&w)
	body, _ := w.Done()
	b, _ := record.Frame(body)
	return b
}

// readHead tells a snapshot's number, and how many pairs it has.
func readHead(body []byte) (uint64, uint64, bool) {
	r := record.From(body)
	number, count := r.Num(numberWidth), r.Num(countWidth)
	return number, count, r.End() == api.OK && number <= lastNumber
}

// readPair tells the pair of a snapshot's frame.
func readPair(body []byte) (pair, bool) {
	r := record.From(body)
	key, value := r.Bytes(), r.Bytes()
	return pair{key: string(key), value: value}, r.End() == api.OK && goodKey(key) && goodValue(value)
}

// parseSnap tells a snapshot's number and pairs; or that it is none of such limits.
func parseSnap(snap []byte, l api.Limits) (uint64, pairs, bool) {
	body, size, e := record.Unframe(snap)
	number, count, good := readHead(body)
	if e != api.OK || !good {
		return 0, pairs{}, false
	}
	p, last := noPairs(), ""
	for snap = snap[size:]; len(snap) > 0; snap = snap[size:] {
		body, size, e = record.Unframe(snap)
		x, good := readPair(body)
		if e != api.OK || !good || x.key <= last {
			return 0, pairs{}, false
		}
		p.put(x)
		last = x.key
	}
	return number, p, uint64(len(p.values)) == count && p.fit(l)
}
