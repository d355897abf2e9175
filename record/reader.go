package record

import (
	"bytes"

	"postern/api"
)

// Reader takes them again; its first error stays.
type Reader struct {
	left    []byte
	refused api.Errno
}

// From begins to read bytes.
func From(b []byte) *Reader { return &Reader{left: bytes.Clone(b)} }

func (r *Reader) Num(width int) uint64 {
	if !isWidth(width) {
		r.refuse(api.ErrRecordForm)
	}
	return number(r.take(width))
}

func (r *Reader) Int() int64 { return int64(number(r.take(width8))) }

func (r *Reader) Flag() bool {
	if number(r.front(width1)) > 1 {
		r.refuse(api.ErrRecordForm)
	}
	return number(r.take(width1)) == 1
}

func (r *Reader) Bytes() []byte { return bytes.Clone(r.row()) }
func (r *Reader) Text() string  { return string(r.row()) }

func (r *Reader) ID() api.ID {
	d := api.ID{}
	copy(d[:], r.take(len(d)))
	return d
}

// Left tells how many bytes are left; End the first error, or that something is left.
func (r *Reader) Left() int { return len(r.left) }

func (r *Reader) End() api.Errno {
	if r.refused == api.OK && len(r.left) > 0 {
		return api.ErrRecordLeft
	}
	return r.refused
}

// row takes Bytes or a Text; none, if that is refused.
func (r *Reader) row() []byte {
	size := width4 + int(number(r.front(width4)))
	if size > width4+api.MaxRow {
		r.refuse(api.ErrRecordLong)
	}
	field := r.take(size)
	if len(field) == 0 {
		return nil
	}
	return field[width4:size:size]
}

// take takes a field of so many bytes; none, if that is refused.
func (r *Reader) take(size int) []byte {
	field := r.front(size)
	r.left = r.left[len(field):]
	return field
}

// front tells the field of so many bytes that is to be taken next; none, if that is refused.
func (r *Reader) front(size int) []byte {
	if size > len(r.left) {
		r.refuse(api.ErrRecordShort)
	}
	if r.refused != api.OK {
		return nil
	}
	return r.left[:size:size]
}

func (r *Reader) refuse(e api.Errno) {
	if r.refused == api.OK {
		r.refused = e
	}
}
