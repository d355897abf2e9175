package radix

import (
	"math"
	"strings"

	"postern/api"
)

// A base's letters, each at the place of what it is worth.
const (
	lettersURL = "ABCDEFGHIJKLMNOPQRSTUVWXYZabcdefghijklmnopqrstuvwxyz0123456789-_"
	lettersPad = "ABCDEFGHIJKLMNOPQRSTUVWXYZabcdefghijklmnopqrstuvwxyz0123456789+/"
	digits16   = "0123456789abcdef"
	digits10   = "0123456789"
)

const pad = '='

const least int64 = math.MinInt64

// worth tells what a letter stands for; -1, if it is none of the base's.
func worth(c byte, base string) int { return strings.IndexByte(base, c) }

// allOf tells whether every byte of s is a letter of the base.
func allOf(s, base string) bool {
	at := 0
next:
	if at == len(s) {
		return true
	}
	if worth(s[at], base) < 0 {
		return false
	}
	at++
	goto next
}

// letters tells bytes in base 64, group by group, without pads.
func letters(b []byte, base string) []byte {
	text := make([]byte, 0, (4*len(b)+2)/3)
next:
	if len(b) == 0 {
		return text
	}
	n := min(len(b), 3)
	text = appendLetters(text, b[:n], base)
	b = b[n:]
	goto next
}

// appendLetters lays the letters of a group of one to three bytes behind text.
// The last one comes first: each letter needs bits of the byte behind its own.
func appendLetters(text, group []byte, base string) []byte {
	var four [4]byte
	bits := 0
	switch len(group) {
	case 3:
		bits |= int(group[2])
		four[3] = base[bits&63]
		fallthrough
	case 2:
		bits |= int(group[1]) << 8
		four[2] = base[bits>>6&63]
		fallthrough
	default:
		bits |= int(group[0]) << 16
		four[1] = base[bits>>12&63]
		four[0] = base[bits>>18]
	}
	return append(text, four[:len(group)+1]...)
}

// readGroups tells the bytes of letters that are all of the base, and of a length that bytes have.
func readGroups(s, base string) ([]byte, api.Errno) {
	if spareBits(s, base) != 0 {
		return nil, api.ErrRadixBits
	}
	out := make([]byte, 0, len(s)*3/4)
next:
	if len(s) == 0 {
		return out, api.OK
	}
	n := min(len(s), 4)
	out = appendBytes(out, s[:n], base)
	s = s[n:]
	goto next
}

// spareBits tells the bits of the last letter that belong to no byte.
func spareBits(s, base string) int {
	switch len(s) % 4 {
	case 2:
		return worth(s[len(s)-1], base) & 15
	case 3:
		return worth(s[len(s)-1], base) & 3
	}
	return 0
}

// appendBytes lays the bytes of a group of two to four letters behind out.
func appendBytes(out []byte, group, base string) []byte {
	bits := 0
	switch len(group) {
	case 4:
		bits |= worth(group[3], base)
		fallthrough
	case 3:
		bits |= worth(group[2], base) << 6
		fallthrough
	default:
		bits |= worth(group[1], base)<<12 | worth(group[0], base)<<18
	}
	three := [3]byte{byte(bits >> 16), byte(bits >> 8), byte(bits)}
	return append(out, three[:len(group)-1]...)
}

// pads tells how many pads s has.
func pads(s string) int {
	n := 0
next:
	if n == 2 || n == len(s) || s[len(s)-1-n] != pad {
		return n
	}
	n++
	goto next
}

// plainDigits tells whether s is a decimal of a number that is not below 0, of any size.
func plainDigits(s string) bool {
	if len(s) == 0 || len(s) > 1 && s[0] == '0' {
		return false
	}
	return allOf(s, digits10)
}

// negated tells the number of plain digits, below 0: there is room for one more than above it.
func negated(digits string) (int64, bool) {
	n := int64(0)
next:
	if len(digits) == 0 {
		return n, true
	}
	d := int64(worth(digits[0], digits10))
	if n < (least+d)/10 {
		return 0, false
	}
	n = n*10 - d
	digits = digits[1:]
	goto next
}
