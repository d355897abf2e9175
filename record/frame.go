package record

import (
	"bytes"

	"postern/api"
)

// A frame's parts: its head is the mark, how many bytes the body has, and the Sum of these; behind the body stands the body's Sum.
const (
	mark     = 0xc9
	markEnd  = width1
	countEnd = markEnd + width4
	headEnd  = countEnd + sumSize
	sumSize  = width4
)

// halved holds what halving a number below 16 four times makes of it, each 1 that drops answered by edb88320: P3.5's eight steps are taken four at a time.
var halved = [16]uint32{
	0x00000000, 0x1db71064, 0x3b6e20c8, 0x26d930ac, 0x76dc4190, 0x6b6b51f4, 0x4db26158, 0x5005713c,
	0xedb88320, 0xf00f9344, 0xd6d6a3e8, 0xcb61b38c, 0x9b64c2b0, 0x86d3d2d4, 0xa00ae278, 0xbdbdf21c,
}

// Sum tells a CRC-32.
func Sum(b []byte) uint32 {
	sum := ^uint32(0)
	for _, c := range b {
		sum ^= uint32(c)
		sum = sum>>4 ^ halved[sum&15]
		sum = sum>>4 ^ halved[sum&15]
	}
	return ^sum
}

// Frame lays a body into a frame; Unframe takes the one at the front: its body, how many bytes it has.
func Frame(body []byte) ([]byte, api.Errno) {
	if len(body) > api.MaxFrame {
		return nil, api.ErrRecordLong
	}
	frame := make([]byte, 0, headEnd+len(body)+sumSize)
	frame = append(frame, mark)
	frame = appendNumber(frame, uint64(len(body)), width4)
	frame = appendSum(frame, frame)
	frame = append(frame, body...)
	return appendSum(frame, body), api.OK
}

func Unframe(b []byte) ([]byte, int, api.Errno) {
	count, e := readHead(b)
	if e != api.OK {
		return nil, 0, e
	}
	bodyEnd := headEnd + count
	size := bodyEnd + sumSize
	if len(b) < size {
		return nil, 0, api.ErrRecordShort
	}
	body := b[headEnd:bodyEnd:bodyEnd]
	if !isSum(b[bodyEnd:size], body) {
		return nil, 0, api.ErrRecordSum
	}
	return bytes.Clone(body), size, api.OK
}

// readHead tells how many bytes the body of the frame at the front has.
func readHead(b []byte) (int, api.Errno) {
	if len(b) > 0 && b[0] != mark {
		return 0, api.ErrRecordForm
	}
	if len(b) < headEnd {
		return 0, api.ErrRecordShort
	}
	if !isSum(b[countEnd:headEnd], b[:countEnd]) {
		return 0, api.ErrRecordSum
	}
	count := int(number(b[markEnd:countEnd]))
	if count > api.MaxFrame {
		return 0, api.ErrRecordLong
	}
	return count, api.OK
}

// appendSum lays the Sum of b behind out.
func appendSum(out, b []byte) []byte { return appendNumber(out, uint64(Sum(b)), sumSize) }

// isSum tells whether such bytes are the Sum of b.
func isSum(laid, b []byte) bool { return number(laid) == uint64(Sum(b)) }
