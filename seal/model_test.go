package seal_test

import (
	"crypto/hmac"
	"crypto/sha256"
	"encoding/base64"
	"math"
	"regexp"
	"slices"
	"strconv"
	"strings"

	"postern/api"
	"postern/claim"
)

const letters = "ABCDEFGHIJKLMNOPQRSTUVWXYZabcdefghijklmnopqrstuvwxyz0123456789-_"

func b64(s string) string { return base64.RawURLEncoding.EncodeToString([]byte(s)) }

// tagBytes is a tag, reckoned by Go's library.
func tagBytes(secret [32]byte, input string) string {
	h := hmac.New(sha256.New, secret[:])
	h.Write([]byte(input))
	return string(h.Sum(nil))
}

// signed is the text of any header and any payload, with a secret's tag.
func signed(secret [32]byte, head, body string) string {
	input := b64(head) + "." + b64(body)
	return input + "." + b64(tagBytes(secret, input))
}

func headOf(kid uint64) string {
	return `{"alg":"HS256","typ":"at+jwt","kid":"` + strconv.FormatUint(kid, 10) + `"}`
}

// bodyOf is a payload of claims that may be, written by hand.
func bodyOf(c api.Claims) string {
	whole := func(n int64) string { return strconv.FormatInt(n, 10) }
	return `{"aud":"` + c.Aud + `","client_id":"` + c.Client + `","exp":` + whole(c.Exp) + `,"grant":` + whole(int64(c.Grant)) + `,"iat":` + whole(c.Iat) +
		`,"iss":"` + c.Iss + `","jti":"` + b64(string(c.ID[:])) + `","scope":"` + strings.Join(c.Scopes, " ") + `","sub":"` + c.Sub + `"}`
}

// wantedBytes says what base64url without pads tells, letter by letter, bit by bit.
func wantedBytes(s string) (string, bool) {
	if len(s)%4 == 1 {
		return "", false
	}
	var out []byte
	bits, count := 0, 0
	for i := range len(s) {
		at := strings.IndexByte(letters, s[i])
		if at < 0 {
			return "", false
		}
		bits, count = bits<<6|at, count+6
		if count >= 8 {
			count -= 8
			out = append(out, byte(bits>>count))
			bits &= 1<<count - 1
		}
	}
	return string(out), bits == 0
}

var headForm = regexp.MustCompile(`\A\{"alg":"HS256","typ":"at\+jwt","kid":"([1-9][0-9]*)"\}\z`)

func wantedKid(head string) (uint64, bool) {
	m := headForm.FindStringSubmatch(head)
	if m == nil {
		return 0, false
	}
	kid, err := strconv.ParseUint(m[1], 10, 63)
	return kid, err == nil
}

var bodyForm = regexp.MustCompile(`(?s)\A\{"aud":"([^"\\]*)","client_id":"([^"\\]*)","exp":([0-9]+),"grant":([0-9]+),"iat":([0-9]+),"iss":"([^"\\]*)","jti":"([^"\\]{22})","scope":"([^"\\]*)","sub":"([^"\\]*)"\}\z`)

// wantedClaims says which claims a payload's text tells: the text is taken to pieces, and has to be what they are written as.
func wantedClaims(body string) (api.Claims, bool) {
	m := bodyForm.FindStringSubmatch(body)
	if m == nil {
		return api.Claims{}, false
	}
	c := api.Claims{Aud: m[1], Client: m[2], Iss: m[6], Sub: m[9]}
	c.Exp, _ = strconv.ParseInt(m[3], 10, 64)
	c.Grant, _ = strconv.ParseUint(m[4], 10, 63)
	c.Iat, _ = strconv.ParseInt(m[5], 10, 64)
	id, _ := wantedBytes(m[7])
	copy(c.ID[:], id)
	if m[8] != "" {
		c.Scopes = strings.Split(m[8], " ")
	}
	if claim.Check(c) != api.OK || bodyOf(c) != body {
		return api.Claims{}, false
	}
	return c, true
}

// wantedKey says which key a ring has for a kid, by chapter 5's words.
func wantedKey(r api.Ring, kid uint64) (api.Key, bool) {
	n := len(r.Keys)
	if n < 1 || n > 8 || r.Next > math.MaxInt64 || r.Next <= r.Keys[n-1].Kid {
		return api.Key{}, false
	}
	found, there := api.Key{}, false
	for i, k := range r.Keys {
		if k.Kid == 0 || i > 0 && k.Kid <= r.Keys[i-1].Kid || (i == n-1) != (k.Until == 0) || k.Until < 0 {
			return api.Key{}, false
		}
		if k.Kid == kid {
			found, there = k, true
		}
	}
	return found, there
}

// wantedParts says by P7.3's words what Parts has to answer.
func wantedParts(s string) (uint64, string, string, api.Errno) {
	l := strings.Split(s, ".")
	if len(s) > 2048 || len(l) != 3 {
		return 0, "", "", api.ErrSealParts
	}
	var rows []string
	for _, part := range l {
		b, fits := wantedBytes(part)
		if !fits {
			return 0, "", "", api.ErrSealText
		}
		rows = append(rows, b)
	}
	kid, fits := wantedKid(rows[0])
	if !fits {
		return 0, "", "", api.ErrSealHead
	}
	return kid, l[0] + "." + l[1], rows[2], api.OK
}

// wantedOpen says by P7.2's words what Open has to answer.
func wantedOpen(r api.Ring, s string) (api.Claims, api.Errno) {
	kid, input, tag, e := wantedParts(s)
	if e != api.OK {
		return api.Claims{}, e
	}
	k, there := wantedKey(r, kid)
	if !there {
		return api.Claims{}, api.ErrSealKid
	}
	if tag != tagBytes(k.Secret, input) {
		return api.Claims{}, api.ErrSealTag
	}
	body, _ := wantedBytes(strings.Split(s, ".")[1])
	c, fits := wantedClaims(body)
	if !fits {
		return api.Claims{}, api.ErrSealBody
	}
	return c, api.OK
}

// alike holds claims against each other field by field; lists that are nil or empty are one.
func alike(a, b api.Claims) bool {
	return [4]string{a.Iss, a.Sub, a.Client, a.Aud} == [4]string{b.Iss, b.Sub, b.Client, b.Aud} && [2]int64{a.Iat, a.Exp} == [2]int64{b.Iat, b.Exp} && a.Grant == b.Grant && a.ID == b.ID && slices.Equal(a.Scopes, b.Scopes)
}
