package seal

import (
	"strings"

	"postern/api"
	"postern/claim"
	"postern/digest"
	"postern/radix"
	"postern/terse"
)

// The parts of a token, and what stands between them.
const (
	atHead = iota
	atBody
	atTag
	partCount
)

const dot = "."

// What stands about the kid in a header.
const (
	headFront = `{"alg":"HS256","typ":"at+jwt","kid":"`
	headBack  = `"}`
)

// bodyDepth is how many maps stand in one another in a payload: the claims' one alone.
const bodyDepth = 1

const tagSize = 32

// token is what a token's text holds. Its input is a piece of that text.
type token struct {
	kid   uint64
	input string
	body  string
	tag   []byte
}

// read tells what a text holds that has a token's parts and a header; of the payload and the tag nothing more is asked.
func read(s string) (token, api.Errno) {
	if len(s) > api.MaxToken || strings.Count(s, dot) != partCount-1 {
		return token{}, api.ErrSealParts
	}
	var rows [partCount][]byte
	reads := func(at int, part string) bool {
		b, e := radix.Bytes64(part)
		rows[at] = b
		return e == api.OK
	}
	if !holds(strings.Split(s, dot), reads) {
		return token{}, api.ErrSealText
	}
	kid, fits := readHeader(string(rows[atHead]))
	if !fits {
		return token{}, api.ErrSealHead
	}
	input := s[:strings.LastIndex(s, dot)]
	return token{kid: kid, input: input, body: string(rows[atBody]), tag: rows[atTag]}, api.OK
}

// holds tells whether what is asked holds of each part, one behind the other.
func holds(parts []string, asked func(at int, part string) bool) bool {
	for at, part := range parts {
		if !asked(at, part) {
			return false
		}
	}
	return true
}

// header tells the one header of a kid that may be.
func header(kid uint64) string { return headFront + radix.Text10(int64(kid)) + headBack }

// readHeader tells the kid whose header a text is.
func readHeader(s string) (uint64, bool) {
	behind, begins := strings.CutPrefix(s, headFront)
	digits, ends := strings.CutSuffix(behind, headBack)
	if !begins || !ends {
		return 0, false
	}
	kid, e := radix.Number10(digits)
	if e != api.OK || kid < 1 {
		return 0, false
	}
	return uint64(kid), true
}

// payload tells the one text of claims; claim.Check's error, if they may not be.
func payload(c api.Claims) (string, api.Errno) {
	v, e := claim.Map(c)
	if e != api.OK {
		return "", e
	}
	return terse.Print(v)
}

// readPayload tells the claims whose one text s is.
func readPayload(s string) (api.Claims, bool) {
	v, f := terse.Parse(s, bodyDepth)
	if f.Code != api.OK {
		return api.Claims{}, false
	}
	c, e := claim.Of(v)
	if e != api.OK {
		return api.Claims{}, false
	}
	// Parse takes blanks and escapes that Print does not make.
	if text, e := payload(c); e != api.OK || text != s {
		return api.Claims{}, false
	}
	return c, true
}

// tagOf tells a key's tag of an input.
func tagOf(k api.Key, input string) [tagSize]byte {
	return digest.Mac(k.Secret[:], []byte(input))
}

// isSealedBy tells whether a token's tag is the key's.
func isSealedBy(k api.Key, t token) bool {
	return len(t.tag) == tagSize && [tagSize]byte(t.tag) == tagOf(k, t.input)
}
