package terse

import (
	"strconv"
	"unicode/utf8"

	"postern/api"
)

const digits16 = "0123456789abcdef"

// appendValue appends a tree's text.
func appendValue(out []byte, v api.Value) []byte {
	switch v.Kind {
	case api.KindNull:
		return append(out, "null"...)
	case api.KindBool:
		return strconv.AppendBool(out, v.Flag)
	case api.KindInt:
		return strconv.AppendInt(out, v.N, 10)
	case api.KindText:
		return appendText(out, v.Text)
	case api.KindList:
		return append(appendItems(append(out, '['), v), ']')
	}
	return append(appendItems(append(out, '{'), v), '}')
}

// appendItems appends what stands between a list's brackets, or a map's braces.
func appendItems(out []byte, v api.Value) []byte {
	for i, item := range v.Items {
		if i > 0 {
			out = append(out, ',')
		}
		if v.Kind == api.KindMap {
			out = append(appendText(out, v.Keys[i]), ':')
		}
		out = appendValue(out, item)
	}
	return out
}

func appendText(out []byte, s string) []byte {
	out = append(out, '"')
	for _, c := range s {
		out = appendRune(out, c)
	}
	return append(out, '"')
}

// appendRune appends a code point as it stands in a text, in the one way that Print has for it.
func appendRune(out []byte, c rune) []byte {
	switch c {
	case '"', '\\':
		return append(out, '\\', byte(c))
	case '\n':
		return append(out, `\n`...)
	case '\r':
		return append(out, `\r`...)
	case '\t':
		return append(out, `\t`...)
	}
	if c < ' ' {
		return append(out, '\\', 'u', '0', '0', digits16[c>>4], digits16[c&15])
	}
	return utf8.AppendRune(out, c)
}
