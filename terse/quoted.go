package terse

import (
	"strings"
	"unicode/utf8"

	"postern/api"
)

// quoted reads the text whose first quote is to be read.
func (r *reader) quoted() string {
	inside := r.text[r.at+1:]
	var out strings.Builder
	read := 0 // a code point ahead of it belongs to an escape that is read
	for i, c := range inside {
		switch {
		case i < read:
		case c == '"':
			r.at += 1 + i + 1
			return out.String()
		case c == '\\':
			point, width := escape(inside[i:])
			if width == 0 {
				panic(r.fault(api.ErrTerseText))
			}
			out.WriteRune(point)
			read = i + width
		case c < ' ' || c == utf8.RuneError && isBadByte(inside[i:]):
			panic(r.fault(api.ErrTerseText))
		default:
			out.WriteRune(c)
		}
	}
	panic(r.fault(api.ErrTerseText))
}

// isBadByte tells apart what a range over a string shows alike: a byte that is no good UTF-8, and the code point U+FFFD.
func isBadByte(s string) bool {
	_, width := utf8.DecodeRuneInString(s)
	return width == 1
}

// escape tells the code point of the escape that s begins with, and how many bytes it has; 0 if it is none.
func escape(s string) (rune, int) {
	if len(s) < 2 {
		return 0, 0
	}
	switch s[1] {
	case '"', '\\', '/':
		return rune(s[1]), 2
	case 'b':
		return '\b', 2
	case 'f':
		return '\f', 2
	case 'n':
		return '\n', 2
	case 'r':
		return '\r', 2
	case 't':
		return '\t', 2
	case 'u':
		return escape16(s)
	}
	return 0, 0
}

// escape16 is escape for those by digits: one of 16 bits, or two halves of a code point beyond.
func escape16(s string) (rune, int) {
	first, is := unit(s)
	if !is {
		return 0, 0
	}
	if first < 0xd800 || first > 0xdfff {
		return first, 6
	}
	second, is := unit(s[6:])
	if !is || first > 0xdbff || second < 0xdc00 || second > 0xdfff {
		return 0, 0
	}
	return 0x10000 + (first-0xd800)<<10 + (second - 0xdc00), 12
}

// unit tells the number of `\u` and four digits that s begins with.
func unit(s string) (rune, bool) {
	if len(s) < 6 || s[0] != '\\' || s[1] != 'u' {
		return 0, false
	}
	n := rune(0)
	for i := 2; i < 6; i++ {
		digit := strings.IndexByte(digits16, lower(s[i]))
		if digit < 0 {
			return 0, false
		}
		n = n<<4 | rune(digit)
	}
	return n, true
}

func lower(c byte) byte {
	if c >= 'A' && c <= 'F' {
		return c + 'a' - 'A'
	}
	return c
}
