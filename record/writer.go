package record

import (
	"bytes"

	"postern/api"
)

// part is bytes that have been laid behind those of another part. Parts are never changed: so a Writer and its copy, which have their first parts in common, don't write over each other's.
type part struct {
	ahead *part
	bytes []byte
}

// Writer lays fields one behind the other.
type Writer struct {
	last    *part
	length  int // bytes of all parts
	refused api.Errno
}

func (w *Writer) Num(n uint64, width int) {
	// A shift by all 64 bits leaves 0: in eight bytes every number fits.
	if !isWidth(width) || n>>(8*width) != 0 {
		w.refuse(api.ErrRecordForm)
		return
	}
	w.lay(appendNumber(nil, n, width))
}

func (w *Writer) Int(n int64) { w.Num(uint64(n), width8) }

func (w *Writer) Flag(b bool) {
	if b {
		w.Num(1, width1)
	} else {
		w.Num(0, width1)
	}
}

func (w *Writer) Bytes(b []byte) {
	if w.begin(len(b)) {
		w.lay(bytes.Clone(b))
	}
}

func (w *Writer) Text(s string) {
	if w.begin(len(s)) {
		w.lay([]byte(s))
	}
}

func (w *Writer) ID(d api.ID) { w.lay(bytes.Clone(d[:])) }

// Done tells what has been laid, and the first error.
func (w *Writer) Done() ([]byte, api.Errno) {
	if w.refused != api.OK {
		return nil, w.refused
	}
	out := make([]byte, w.length)
	end := w.length
	for p := w.last; p != nil; p = p.ahead {
		end -= len(p.bytes)
		copy(out[end:], p.bytes)
	}
	return out, api.OK
}

// begin lays how many bytes a row has, and tells whether the row may follow.
func (w *Writer) begin(length int) bool {
	if length > api.MaxRow {
		w.refuse(api.ErrRecordLong)
	} else {
		w.Num(uint64(length), width4)
	}
	return w.refused == api.OK
}

// lay lays bytes, which are the Writer's from then on.
func (w *Writer) lay(b []byte) {
	if w.refused == api.OK {
		w.last = &part{w.last, b}
		w.length += len(b)
	}
}

// refuse notes the first refusal's error; what was laid ahead of it nobody will be told.
func (w *Writer) refuse(e api.Errno) {
	if w.refused == api.OK {
		*w = Writer{refused: e}
	}
}
