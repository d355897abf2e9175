package terse

import (
	"strconv"
	"strings"

	"postern/api"
)

// reader goes through a text token by token. What it can't go on with it gives up by a panic of an api.Fault.
type reader struct {
	text  string
	at    int // the first byte that is not read: behind first, that of a token, or the text's end
	depth int // how many lists and maps may stand in one another
}

// fault tells an error at the token that is to be read.
func (r *reader) fault(code api.Errno) api.Fault { return api.Fault{Code: code, At: r.at} }

// first goes to the next token and tells its first byte; if there is none, a blank, which begins no token.
func (r *reader) first() byte {
	for r.at < len(r.text) && isBlank(r.text[r.at]) {
		r.at++
	}
	if r.at == len(r.text) {
		return ' '
	}
	return r.text[r.at]
}

func isBlank(c byte) bool { return c == ' ' || c == '\t' || c == '\n' || c == '\r' }

// takes reads the mark, if it is the next token.
func (r *reader) takes(mark byte) bool {
	if r.first() != mark {
		return false
	}
	r.at++
	return true
}

// wants reads the mark, without which the reading is given up.
func (r *reader) wants(mark byte) {
	if !r.takes(mark) {
		panic(r.fault(api.ErrTerseText))
	}
}

// end gives up if a token is left.
func (r *reader) end() {
	r.first()
	if r.at < len(r.text) {
		panic(r.fault(api.ErrTerseLeft))
	}
}

// item reads an item that stands in so many lists and maps.
func (r *reader) item(about int) api.Value {
	switch r.first() {
	case '[':
		r.enter(about)
		return r.list(about + 1)
	case '{':
		r.enter(about)
		return r.pairs(about + 1)
	case '"':
		return api.Value{Kind: api.KindText, Text: r.quoted()}
	}
	return r.word()
}

// enter reads the bracket or the brace that begins a list or a map.
func (r *reader) enter(about int) {
	if about >= r.depth {
		panic(r.fault(api.ErrTerseDeep))
	}
	r.at++
}

// list reads a list behind its first bracket.
func (r *reader) list(about int) api.Value {
	v := api.Value{Kind: api.KindList}
	if r.takes(']') {
		return v
	}
	for {
		v.Items = append(v.Items, r.item(about))
		if r.takes(']') {
			return v
		}
		r.wants(',')
	}
}

// pairs reads a map behind its first brace.
func (r *reader) pairs(about int) api.Value {
	v := api.Value{Kind: api.KindMap}
	if r.takes('}') {
		return v
	}
	seen := map[string]int{}
	for {
		v.Keys = append(v.Keys, r.key(seen))
		r.wants(':')
		v.Items = append(v.Items, r.item(about))
		if r.takes('}') {
			return v
		}
		r.wants(',')
	}
}

// key reads a map's key that is none of those seen, and notes it there.
func (r *reader) key(seen map[string]int) string {
	if r.first() != '"' {
		panic(r.fault(api.ErrTerseText))
	}
	twice := r.fault(api.ErrTerseKey)
	key := r.quoted()
	if _, has := seen[key]; has {
		panic(twice)
	}
	seen[key] = len(seen)
	return key
}

// word reads an item that is a word. Where no word stands, it is the empty one, and no item.
func (r *reader) word() api.Value {
	word := wordAhead(r.text[r.at:])
	v := api.Value{Kind: api.KindNull}
	switch word {
	case "null":
	case "false", "true":
		v = api.Value{Kind: api.KindBool, Flag: word == "true"}
	default:
		v = api.Value{Kind: api.KindInt, N: r.number(word)}
	}
	r.at += len(word)
	return v
}

// wordAhead tells the word that s begins with.
func wordAhead(s string) string {
	if i := strings.IndexAny(s, "[]{},:\"\t\n\r "); i >= 0 {
		return s[:i]
	}
	return s
}

// number tells what the word that is to be read counts.
func (r *reader) number(word string) int64 {
	if !isNumber(word) {
		panic(r.fault(api.ErrTerseText))
	}
	n, err := strconv.ParseInt(word, 10, 64)
	if err != nil || word == "-0" {
		panic(r.fault(api.ErrTerseNumber))
	}
	return n
}

// isNumber tells whether a word has the form of JSON's numbers, whole or not, of whatever size.
func isNumber(word string) bool {
	rest := strings.TrimPrefix(word, "-")
	whole := digitsAhead(rest)
	if whole == 0 || whole > 1 && rest[0] == '0' {
		return false
	}
	rest = rest[whole:]
	if fraction, has := strings.CutPrefix(rest, "."); has {
		n := digitsAhead(fraction)
		if n == 0 {
			return false
		}
		rest = fraction[n:]
	}
	return rest == "" || isExponent(rest)
}

func isExponent(s string) bool {
	if s[0] != 'e' && s[0] != 'E' {
		return false
	}
	digits := s[1:]
	if digits != "" && (digits[0] == '+' || digits[0] == '-') {
		digits = digits[1:]
	}
	return digits != "" && digitsAhead(digits) == len(digits)
}

// digitsAhead tells how many digits s begins with.
func digitsAhead(s string) int {
	for i, c := range s {
		if c < '0' || c > '9' {
			return i
		}
	}
	return len(s)
}
