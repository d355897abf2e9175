package claim

import (
	"slices"
	"strings"

	"postern/api"
)

// blank stands between the scopes of a set's text.
const blank = " "

// escaped tells whether a code point is one of the two that JSON escapes though they are printed: no name and no scope has them.
func escaped(c rune) bool { return c == '"' || c == '\\' }

// with tells a new list: the one that is handed in, and s at a place of it.
func with(l []string, at int, s string) []string {
	out := make([]string, len(l)+1)
	copy(out, l[:at])
	out[at] = strings.Clone(s)
	copy(out[at+1:], l[at:])
	return out
}

// both tells a new list: a, and b behind it.
func both(a, b []string) []string {
	out := make([]string, len(a)+len(b))
	n := copy(out, a)
	copy(out[n:], b)
	return out
}

// isSet tells whether a list is a set as it stands.
func isSet(l []string) bool {
	set, e := Set(l)
	return e == api.OK && slices.Equal(set, l)
}
