package store

import (
	"postern/api"
	"postern/record"
)

// countWidth is how wide the number of changes, or of pairs, is laid. A change has changeBytes beside its key and its value: a flag, and two counts; a frame has frameBytes beside its body.
const (
	countWidth  = 4
	changeBytes = 9
	frameBytes  = 13
)

func goodKey(key []byte) bool     { return len(key) >= 1 && len(key) <= api.MaxKey }
func goodValue(value []byte) bool { return len(value) <= api.MaxValue }

// layBatch tells a batch's form.
func layBatch(l []api.Change) ([]byte, api.Errno) {
	if len(l) > api.MaxBatch {
		return nil, api.ErrStoreBatch
	}
	size := countWidth
	for _, c := range l {
		if e := refusal(c); e != api.OK {
			return nil, e
		}
		size += changeBytes + len(c.Key) + len(c.Value)
	}
	// Ahead of laying it: one value many times over is a long form that was never handed in as such.
	if size > api.MaxFrame {
		return nil, api.ErrStoreBatch
	}
	var w record.Writer
	w.Num(uint64(len(l)), countWidth)
	for _, c := range l {
		w.Flag(c.Gone)
		w.Bytes(c.Key)
		w.Bytes(c.Value)
	}
	form, _ := w.Done() // no field of these is refused
	return form, api.OK
}

// refusal tells why a change may not be.
func refusal(c api.Change) api.Errno {
	switch {
	case !goodKey(c.Key):
		return api.ErrStoreKey
	case !goodValue(c.Value), c.Gone && len(c.Value) > 0:
		return api.ErrStoreValue
	}
	return api.OK
}

// readBatch tells the batch of a form; or that it is none.
func readBatch(form []byte) ([]api.Change, bool) {
	r := record.From(form)
	count := r.Num(countWidth)
	if count > api.MaxBatch {
		return nil, false
	}
	var l []api.Change
	for range count {
		c := api.Change{Gone: r.Flag(), Key: r.Bytes(), Value: r.Bytes()}
		if refusal(c) != api.OK {
			return nil, false
		}
		l = append(l, c)
	}
	return l, r.End() == api.OK
}
