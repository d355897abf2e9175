package record_test

import (
	"bytes"
	"encoding/binary"
	"encoding/hex"
	"hash/crc32"
	"math"
	"math/rand"
	"strings"

	"postern/api"
	"postern/record"
)

// The model keeps a row as an item of a list and says by the chapter's words what is laid, what is taken, what is refused; the library lays numbers and makes sums.

// kinds of fields.
const (
	num = iota
	whole
	flag
	row
	text
	draw
	kinds
)

// field is a call of a Writer, or what a Reader's call tells.
type field struct {
	kind  int
	n     uint64 // of num, whole and flag
	width int    // of num
	s     string // of row, text and draw
}

func lay(w *record.Writer, f field) {
	switch f.kind {
	case num:
		w.Num(f.n, f.width)
	case whole:
		w.Int(int64(f.n))
	case flag:
		w.Flag(f.n == 1)
	case row:
		w.Bytes([]byte(f.s))
	case text:
		w.Text(f.s)
	case draw:
		w.ID(api.ID([]byte(f.s)))
	}
}

func take(r *record.Reader, kind, width int) field {
	f := field{kind: kind}
	switch kind {
	case num:
		f.n, f.width = r.Num(width), width
	case whole:
		f.n = uint64(r.Int())
	case flag:
		if r.Flag() {
			f.n = 1
		}
	case row:
		f.s = string(r.Bytes())
	case text:
		f.s = r.Text()
	case draw:
		d := r.ID()
		f.s = string(d[:])
	}
	return f
}

// nothing is what a refused call tells.
func nothing(kind, width int) field {
	f := field{kind: kind}
	switch kind {
	case num:
		f.width = width
	case draw:
		f.s = strings.Repeat("\x00", 16)
	}
	return f
}

func laidNumber(n uint64, width int) string {
	return string(binary.BigEndian.AppendUint64(nil, n)[8-width:])
}

// wantedLaid says by P3.1's words what a Writer lays of a field, or why it is refused.
func wantedLaid(f field) (string, api.Errno) {
	switch f.kind {
	case num:
		if f.width < 1 || f.width > 8 || f.width < 8 && f.n > uint64(math.Pow(256, float64(f.width)))-1 {
			return "", api.ErrRecordForm
		}
		return laidNumber(f.n, f.width), api.OK
	case whole:
		return laidNumber(f.n, 8), api.OK
	case flag:
		return laidNumber(f.n, 1), api.OK
	case draw:
		return f.s, api.OK
	}
	if len(f.s) > 1048576 {
		return "", api.ErrRecordLong
	}
	return laidNumber(uint64(len(f.s)), 4) + f.s, api.OK
}

// wantedTaken says by P3.3's words what a Reader takes from the front of s, and of how many bytes, or why it is refused.
func wantedTaken(s string, kind, width int) (field, int, api.Errno) {
	none := nothing(kind, width)
	if kind == num && (width < 1 || width > 8) {
		return none, 0, api.ErrRecordForm
	}
	least := []int{width, 8, 1, 4, 4, 16}[kind]
	if len(s) < least {
		return none, 0, api.ErrRecordShort
	}
	got := none
	switch kind {
	case num, whole, flag:
		got.n = binary.BigEndian.Uint64([]byte(strings.Repeat("\x00", 8-least) + s[:least]))
		if kind == flag && got.n > 1 {
			return none, 0, api.ErrRecordForm
		}
		return got, least, api.OK
	case draw:
		got.s = s[:16]
		return got, 16, api.OK
	}
	count := int(binary.BigEndian.Uint32([]byte(s[:4])))
	if count > 1048576 {
		return none, 0, api.ErrRecordLong
	}
	if len(s)-4 < count {
		return none, 0, api.ErrRecordShort
	}
	got.s = s[4 : 4+count]
	return got, 4 + count, api.OK
}

func laidSum(b []byte) []byte { return binary.BigEndian.AppendUint32(nil, crc32.ChecksumIEEE(b)) }

// headOf tells a head with a good Sum, of whatever count.
func headOf(count uint32) []byte {
	head := binary.BigEndian.AppendUint32([]byte{0xc9}, count)
	return append(head, laidSum(head)...)
}

// frameOf says by P3.6's words what a body's frame is.
func frameOf(body []byte) []byte {
	return bytes.Join([][]byte{headOf(uint32(len(body))), body, laidSum(body)}, nil)
}

// wantedUnframe says by P3.7's words what Unframe has to answer.
func wantedUnframe(b []byte) ([]byte, int, api.Errno) {
	switch {
	case len(b) == 0:
		return nil, 0, api.ErrRecordShort
	case b[0] != 0xc9:
		return nil, 0, api.ErrRecordForm
	case len(b) < 9:
		return nil, 0, api.ErrRecordShort
	case !bytes.Equal(b[5:9], laidSum(b[:5])):
		return nil, 0, api.ErrRecordSum
	}
	count := int64(binary.BigEndian.Uint32(b[1:5]))
	if count > 16777216 {
		return nil, 0, api.ErrRecordLong
	}
	if int64(len(b)) < count+13 {
		return nil, 0, api.ErrRecordShort
	}
	if body := b[9 : 9+count]; bytes.Equal(b[9+count:13+count], laidSum(body)) {
		return body, int(count) + 13, api.OK
	}
	return nil, 0, api.ErrRecordSum
}

// someBytes tells n bytes that hang on r alone, many of them at the ends of their range.
func someBytes(r *rand.Rand, n int) []byte {
	b := make([]byte, n)
	for i := range b {
		b[i] = byte(r.Intn(256))
		if r.Intn(2) == 0 {
			b[i] = []byte{0, 0, 0, 1, 2, 0x10, 0xc9, 0xff}[r.Intn(8)]
		}
	}
	return b
}

// someField tells a field that may be laid.
func someField(r *rand.Rand) field {
	f := field{kind: r.Intn(kinds)}
	switch f.kind {
	case num:
		f.width = 1 + r.Intn(8)
		f.n = binary.BigEndian.Uint64(someBytes(r, 8)) >> (64 - 8*f.width)
	case whole:
		f.n = binary.BigEndian.Uint64(someBytes(r, 8))
	case flag:
		f.n = uint64(r.Intn(2))
	case row, text:
		f.s = string(someBytes(r, r.Intn(30)))
	case draw:
		f.s = string(someBytes(r, 16))
	}
	return f
}

// bodies tells rows of bytes: none, every single one, and some of each length up to 70.
func bodies() [][]byte {
	l := [][]byte{nil, {}}
	for c := range 256 {
		l = append(l, []byte{byte(c)})
	}
	r := rand.New(rand.NewSource(1))
	for n := range 71 {
		l = append(l, make([]byte, n), bytes.Repeat([]byte{255}, n), someBytes(r, n), someBytes(r, n))
	}
	return l
}

func unhex(s string) []byte {
	b, err := hex.DecodeString(strings.ReplaceAll(s, " ", ""))
	if err != nil {
		panic(err)
	}
	return b
}
