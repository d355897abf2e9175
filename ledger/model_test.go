package ledger_test

import (
	"fmt"
	"maps"
	"math/rand"
	"slices"
	"strings"

	"postern/api"
)

// The fields of a form, byte by byte as chapter 3 says.
func num(n uint64, width int) string {
	out := ""
	for range width {
		out = string([]byte{byte(n)}) + out
		n >>= 8
	}
	return out
}

func integer(n int64) string  { return num(uint64(n), 8) }
func counted(s string) string { return num(uint64(len(s)), 4) + s }

func flag(b bool) string {
	if b {
		return "\x01"
	}
	return "\x00"
}

func texts(l []string) string {
	out := num(uint64(len(l)), 1)
	for _, s := range l {
		out += counted(s)
	}
	return out
}

// keyOf tells a row's key, by the chapter's table.
func keyOf(row any) string {
	switch r := row.(type) {
	case api.Config:
		return "c"
	case clock:
		return "t"
	case next:
		return "n"
	case api.Shift:
		return "s"
	case api.Ring:
		return "k"
	case revoked:
		return "r"
	case api.User:
		return "U" + counted(r.Name)
	case api.Client:
		return "C" + counted(r.ID)
	case api.Consent:
		return "O" + counted(r.User) + counted(r.Client)
	case api.Session:
		return "S" + string(r.ID[:])
	case api.Code:
		return "D" + string(r.ID[:])
	case api.Grant:
		return "G" + num(r.N, 8)
	case api.Refresh:
		return "R" + string(r.ID[:])
	case api.Held:
		return "H" + string(r.Claims.ID[:])
	}
	panic("no row")
}

// formOf tells a row's form, by the chapter's table.
func formOf(row any) string {
	switch r := row.(type) {
	case api.Config:
		return counted(r.Issuer) + integer(r.Access) + integer(r.Refresh) + integer(r.Code) + integer(r.Session) +
			integer(int64(r.Rounds)) + integer(r.Lock.Half) + num(r.Lock.Limit, 8) + num(uint64(r.Engine), 1)
	case clock:
		return integer(int64(r))
	case next:
		return num(uint64(r), 8)
	case api.Shift:
		return flag(r.On) + num(uint64(r.From), 1) + num(uint64(r.To), 1) + num(r.Cursor, 8) + num(r.Epoch, 8)
	case api.Ring:
		out := num(r.Next, 8) + num(uint64(len(r.Keys)), 1)
		for _, k := range r.Keys {
			out += num(k.Kid, 8) + counted(string(k.Secret[:])) + integer(k.Until)
		}
		return out
	case revoked:
		var b strings.Builder
		b.WriteString(num(uint64(len(r)), 2))
		for _, x := range r {
			b.WriteString(flag(x.Whole) + num(x.Grant, 8) + string(x.ID[:]) + integer(x.Exp))
		}
		return b.String()
	case api.User:
		return counted(r.Name) + string(r.Salt[:]) + counted(string(r.Digest[:])) + num(r.Meter.Score, 8) + integer(r.Meter.At)
	case api.Client:
		return counted(r.ID) + counted(r.Aud) + flag(r.Public) + texts(r.Redirects) + texts(r.Scopes) + string(r.Salt[:]) + counted(string(r.Digest[:]))
	case api.Consent:
		return counted(r.User) + counted(r.Client) + texts(r.Scopes)
	case api.Session:
		return string(r.ID[:]) + counted(r.User) + integer(r.Exp)
	case api.Code:
		return string(r.ID[:]) + counted(r.User) + counted(r.Client) + counted(r.Redirect) + texts(r.Scopes) + counted(r.Challenge) + integer(r.Exp) + num(r.Grant, 8)
	case api.Grant:
		return num(r.N, 8) + counted(r.User) + counted(r.Client) + texts(r.Scopes) + num(uint64(r.Engine), 1) + flag(r.Live) + string(r.Current[:]) +
			integer(r.Exp) + integer(r.Last) + integer(r.Sealed) + integer(int64(r.Issues))
	case api.Refresh:
		return string(r.ID[:]) + num(r.Grant, 8) + integer(r.Exp)
	case api.Held:
		c := r.Claims
		return counted(c.Iss) + counted(c.Sub) + counted(c.Client) + counted(c.Aud) + texts(c.Scopes) + num(c.Grant, 8) + integer(c.Iat) + integer(c.Exp) + string(c.ID[:]) + num(r.Kid, 8)
	}
	panic("no row")
}

// shapeOf tells, of a letter, the fields of its kind's forms: t a text, d an ID, b thirty-two Bytes, 8 and 1 so many bytes, f a flag, s scopes, r redirects, K a ring's keys, E a list's entries; and the places of those that stand in the key.
func shapeOf(letter byte) (shape string, key []int) {
	switch letter {
	case 'c':
		return "t88888881", nil
	case 't', 'n':
		return "8", nil
	case 's':
		return "f1188", nil
	case 'k':
		return "8K", nil
	case 'r':
		return "E", nil
	case 'U':
		return "tdb88", []int{0}
	case 'C':
		return "ttfrsdb", []int{0}
	case 'O':
		return "tts", []int{0, 1}
	case 'S':
		return "dt8", []int{0}
	case 'D':
		return "dtttst88", []int{0}
	case 'G':
		return "8tts1fd8888", []int{0}
	case 'R':
		return "d88", []int{0}
	case 'H':
		return "tttts888d8", []int{8}
	}
	return "", nil
}

// isRow tells whether a pair is a row, by the shapes alone.
func isRow(key, value string) bool {
	shape, places := shapeOf(key[0])
	want := key[:1]
	var parts []string
	for _, field := range []byte(shape) {
		size := sizeOf(field, value)
		if size < 0 || size > len(value) {
			return false
		}
		parts, value = append(parts, value[:size]), value[size:]
	}
	for _, place := range places {
		want += parts[place]
	}
	return shape != "" && value == "" && key == want
}

// sizeOf tells how many bytes the field at the front has; less than 0, if none of its kind stands there.
func sizeOf(field byte, value string) int {
	switch field {
	case 't':
		return limited(value, 4, 256, 1)
	case 'b':
		if n := limited(value, 4, 32, 1); n == 36 {
			return n
		}
		return -1
	case 'd':
		return 16
	case '8':
		return 8
	case '1':
		return 1
	case 'f':
		if value == "" || value[0] > 1 {
			return -1
		}
		return 1
	case 's':
		return manyOf(value, 1, 16, "t")
	case 'r':
		return manyOf(value, 1, 8, "t")
	case 'K':
		return manyOf(value, 1, 255, "8b8")
	}
	return manyOf(value, 2, 65535, "f8d8")
}

// limited tells the size of a count, and so many more; less than 0, if there are more than most.
func limited(value string, width, most, each int) int {
	n := countOf(value, width)
	if n < 0 || n > most {
		return -1
	}
	return width + n*each
}

func countOf(value string, width int) int {
	if len(value) < width {
		return -1
	}
	n := 0
	for _, b := range []byte(value[:width]) {
		n = n<<8 + int(b)
	}
	return n
}

// manyOf tells the size of a list of such shapes.
func manyOf(value string, width, most int, shape string) int {
	n := countOf(value, width)
	if n < 0 || n > most {
		return -1
	}
	at := width
	for range n {
		for _, field := range []byte(shape) {
			if at > len(value) {
				return -1
			}
			size := sizeOf(field, value[at:])
			if size < 0 {
				return -1
			}
			at += size
		}
	}
	return at
}

// model is a ledger's rows by their keys.
type model map[string]any

func (m model) put(row any) { m[keyOf(row)] = row }

func (m model) drop(row any) bool {
	_, there := m[keyOf(row)]
	delete(m, keyOf(row))
	return there
}

// get tells the row that has the key of this one, as ledger's calls tell it.
func (m model) get(row any) (any, bool) {
	if r, there := m[keyOf(row)]; there {
		return r, true
	}
	_, config := row.(api.Config)
	return zeroOf(row), alone(row) && !config
}

// list tells the rows of a letter by their keys.
func (m model) list(letter byte) []any {
	var l []any
	for _, key := range slices.Sorted(maps.Keys(m)) {
		if key[0] == letter {
			l = append(l, m[key])
		}
	}
	return l
}

// pairs tells all pairs in one line, as pairsOf does.
func (m model) pairs() string {
	var l []string
	for _, key := range slices.Sorted(maps.Keys(m)) {
		l = append(l, fmt.Sprintf("%x=%x", key, formOf(m[key])))
	}
	return strings.Join(l, " ")
}

// any tells some row of times about 0 to 9 and few keys, so that many meet.
func (m model) any(r *rand.Rand) any {
	at := func() int64 { return int64(r.Intn(10)) }
	d, name := api.ID{byte(r.Intn(3)), 15: byte(r.Intn(3))}, strings.Repeat("a", r.Intn(3))+[]string{"", "b", "\xff"}[r.Intn(3)]
	scopes := []string{"x", "y", name}[:r.Intn(4)]
	switch r.Intn(14) {
	case 0:
		return api.Config{Issuer: name, Access: at(), Engine: r.Intn(256)}
	case 1:
		return clock(at())
	case 2:
		return next(at())
	case 3:
		return api.Shift{On: r.Intn(2) == 0, From: r.Intn(3), Cursor: uint64(at())}
	case 4:
		ring := api.Ring{Next: uint64(at())}
		for range r.Intn(4) {
			ring.Keys = append(ring.Keys, api.Key{Kid: uint64(at()), Secret: block(byte(at())), Until: at()})
		}
		return ring
	case 5:
		var l revoked
		for range r.Intn(4) {
			l = append(l, api.Revoked{Whole: r.Intn(2) == 0, Grant: uint64(at()), ID: d, Exp: at()})
		}
		return l
	case 6:
		return api.User{Name: name, Salt: d, Meter: api.Meter{Score: uint64(at()), At: at()}}
	case 7:
		return api.Client{ID: name, Public: r.Intn(2) == 0, Redirects: scopes, Scopes: []string{name}}
	case 8:
		return api.Consent{User: name, Client: strings.Repeat("c", r.Intn(3)), Scopes: scopes}
	case 9:
		return api.Session{ID: d, User: name, Exp: at()}
	case 10:
		return api.Code{ID: d, Scopes: scopes, Challenge: name, Exp: at(), Grant: uint64(at())}
	case 11:
		return api.Grant{N: uint64(at()) << (8 * r.Intn(2)), Scopes: scopes, Live: r.Intn(2) == 0, Exp: at(), Last: at(), Sealed: at()}
	case 12:
		return api.Refresh{ID: d, Grant: uint64(at()), Exp: at()}
	}
	return api.Held{Claims: api.Claims{ID: d, Scopes: scopes, Iat: at(), Exp: at()}, Kid: uint64(at())}
}

// expire takes away what P13.5 names, and tells how many they were.
func (m model) expire() int {
	now, _ := m["t"].(clock)
	n := 0
	for key, row := range m {
		gone := false
		switch r := row.(type) {
		case api.Session:
			gone = r.Exp <= int64(now)
		case api.Code:
			gone = r.Exp <= int64(now)
		case api.Refresh:
			gone = r.Exp <= int64(now)
		case api.Held:
			gone = r.Claims.Exp <= int64(now)
		case api.Grant:
			gone = max(r.Last, r.Exp) <= int64(now) || !r.Live && r.Last <= int64(now)
		case api.Ring:
			left := api.Ring{Next: r.Next}
			for _, k := range r.Keys {
				if k.Until == 0 || k.Until > int64(now) {
					left.Keys = append(left.Keys, k)
				}
			}
			n += len(r.Keys) - len(left.Keys)
			m[key] = left
		case revoked:
			var left revoked
			for _, e := range r {
				if e.Exp > int64(now) {
					left = append(left, e)
				}
			}
			n += len(r) - len(left)
			m[key] = left
		}
		if gone {
			delete(m, key)
			n++
		}
	}
	return n
}
