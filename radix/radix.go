// Package radix: numbers and bytes as texts: see ../../shared/doc/01-radix.md.
package radix

import (
	"strconv"
	"strings"

	"postern/api"
)

// Text64 tells bytes in base64url without pads; Bytes64 reads them, in that one form.
func Text64(b []byte) string { return string(letters(b, lettersURL)) }

func Bytes64(s string) ([]byte, api.Errno) {
	if !allOf(s, lettersURL) {
		return nil, api.ErrRadixChar
	}
	if len(s)%4 == 1 {
		return nil, api.ErrRadixLen
	}
	return readGroups(s, lettersURL)
}

// TextPad, BytesPad: in base 64 with pads.
func TextPad(b []byte) string {
	text := letters(b, lettersPad)
	switch len(text) % 4 {
	case 2:
		text = append(text, pad)
		fallthrough
	case 3:
		text = append(text, pad)
	}
	return string(text)
}

func BytesPad(s string) ([]byte, api.Errno) {
	ahead := s[:len(s)-pads(s)]
	if !allOf(ahead, lettersPad) {
		return nil, api.ErrRadixChar
	}
	// Two pads at most: so a length that is a multiple of 4 never leaves one letter alone.
	if len(s)%4 != 0 {
		return nil, api.ErrRadixLen
	}
	return readGroups(ahead, lettersPad)
}

// Text16, Bytes16: in base 16.
func Text16(b []byte) string {
	text := make([]byte, 0, 2*len(b))
	for _, c := range b {
		text = append(text, digits16[c>>4], digits16[c&15])
	}
	return string(text)
}

func Bytes16(s string) ([]byte, api.Errno) {
	if !allOf(s, digits16) {
		return nil, api.ErrRadixChar
	}
	if len(s)%2 != 0 {
		return nil, api.ErrRadixLen
	}
	out := make([]byte, 0, len(s)/2)
next:
	if len(s) == 0 {
		return out, api.OK
	}
	out = append(out, byte(worth(s[0], digits16)<<4|worth(s[1], digits16)))
	s = s[2:]
	goto next
}

// Text10, Number10: whole numbers of 64 bits as decimals.
func Text10(n int64) string { return strconv.FormatInt(n, 10) }

func Number10(s string) (int64, api.Errno) {
	digits, below := strings.CutPrefix(s, "-")
	if !plainDigits(digits) || below && digits == "0" {
		return 0, api.ErrRadixText
	}
	n, fits := negated(digits)
	if !fits || !below && n == least {
		return 0, api.ErrRadixRange
	}
	if below {
		return n, api.OK
	}
	return -n, api.OK
}

// Lay, Read: whole numbers of 1 to 8 bytes, the highest first.
func Lay(n uint64, width int) ([]byte, api.Errno) {
	if width < 1 || width > 8 {
		return nil, api.ErrRadixLen
	}
	// A shift by all 64 bits leaves 0: in eight bytes every number fits.
	if n>>(8*width) != 0 {
		return nil, api.ErrRadixRange
	}
	out := make([]byte, width)
	for i := range out {
		out[i] = byte(n >> (8 * (width - 1 - i)))
	}
	return out, api.OK
}

func Read(b []byte) (uint64, api.Errno) {
	if len(b) < 1 || len(b) > 8 {
		return 0, api.ErrRadixLen
	}
	n := uint64(0)
	for _, c := range b {
		n = n<<8 | uint64(c)
	}
	return n, api.OK
}
