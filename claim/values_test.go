package claim_test

import (
	"math"
	"math/rand"
	"slices"
	"strconv"
	"strings"

	"postern/api"
)

const top = math.MaxInt64

// shop are the claims of the chapter's example.
func shop() api.Claims {
	return api.Claims{Iss: "iss", Sub: "ann", Client: "shop", Aud: "api", Scopes: []string{"a", "b"}, Grant: 7, Iat: 1, Exp: 9}
}

// shopBut are the example's claims with a change.
func shopBut(change func(c *api.Claims)) api.Claims {
	c := shop()
	change(&c)
	return c
}

// many are n scopes that are unlike, in order.
func many(n int) []string {
	var l []string
	for i := range n {
		l = append(l, "s"+strconv.Itoa(10000+i))
	}
	return l
}

// lists are all lists of at most so many of these texts.
func lists(most int, texts ...string) [][]string {
	all := [][]string{nil}
	layer := all
	for range most {
		var longer [][]string
		for _, l := range layer {
			for _, s := range texts {
				longer = append(longer, append(slices.Clone(l), s))
			}
		}
		all, layer = append(all, longer...), longer
	}
	return all
}

// wantedName says by DOC.md's words whether s is a name, byte by byte: of good UTF-8, no byte of a longer code point is below 128.
func wantedName(s string) bool {
	for i := range len(s) {
		if s[i] < 32 || s[i] == 127 || s[i] == 34 || s[i] == 92 {
			return false
		}
	}
	return len(s) >= 1 && len(s) <= 64 && string([]rune(s)) == s
}

// wantedScope says by DOC.md's words whether s is a scope.
func wantedScope(s string) bool {
	for i := range len(s) {
		if s[i] < 33 || s[i] > 126 || s[i] == 34 || s[i] == 92 {
			return false
		}
	}
	return len(s) >= 1 && len(s) <= 32
}

// wantedSet says by P6.2's words what Set has to answer.
func wantedSet(l []string) ([]string, api.Errno) {
	unlike := map[string]bool{}
	var set []string
	for _, s := range l {
		if !wantedScope(s) {
			return nil, api.ErrClaimScope
		}
		if !unlike[s] {
			set = append(set, s)
		}
		unlike[s] = true
	}
	if len(set) > 16 {
		return nil, api.ErrClaimScope
	}
	slices.SortFunc(set, strings.Compare)
	return set, api.OK
}

// wantedCheck says by P6.3's words what Check has to answer.
func wantedCheck(c api.Claims) api.Errno {
	for _, s := range []string{c.Iss, c.Sub, c.Client, c.Aud} {
		if !wantedName(s) {
			return api.ErrClaimName
		}
	}
	if set, e := wantedSet(c.Scopes); e != api.OK || !slices.Equal(set, c.Scopes) {
		return api.ErrClaimScope
	}
	if !(0 <= c.Iat && c.Iat < c.Exp) {
		return api.ErrClaimTime
	}
	if c.Grant == 0 || c.Grant > 1<<63-1 {
		return api.ErrClaimForm
	}
	return api.OK
}

// alike holds claims against each other field by field; lists that are nil or empty are one.
func alike(a, b api.Claims) bool {
	if len(a.Scopes) != len(b.Scopes) {
		return false
	}
	for i := range a.Scopes {
		if a.Scopes[i] != b.Scopes[i] {
			return false
		}
	}
	return [4]string{a.Iss, a.Sub, a.Client, a.Aud} == [4]string{b.Iss, b.Sub, b.Client, b.Aud} && [2]int64{a.Iat, a.Exp} == [2]int64{b.Iat, b.Exp} && a.Grant == b.Grant && a.ID == b.ID
}

// same holds two values against each other field by field; lists that are nil or empty are one.
func same(a, b api.Value) bool {
	return a.Kind == b.Kind && a.Flag == b.Flag && a.N == b.N && a.Text == b.Text && slices.Equal(a.Keys, b.Keys) && slices.EqualFunc(a.Items, b.Items, same)
}

func null() api.Value               { return api.Value{Kind: api.KindNull} }
func yes(flag bool) api.Value       { return api.Value{Kind: api.KindBool, Flag: flag} }
func whole(n int64) api.Value       { return api.Value{Kind: api.KindInt, N: n} }
func text(s string) api.Value       { return api.Value{Kind: api.KindText, Text: s} }
func list(l ...api.Value) api.Value { return api.Value{Kind: api.KindList, Items: l} }

// shopMap is the map of the example's claims, written by hand.
func shopMap() api.Value {
	return api.Value{
		Kind:  api.KindMap,
		Keys:  []string{"aud", "client_id", "exp", "grant", "iat", "iss", "jti", "scope", "sub"},
		Items: []api.Value{text("api"), text("shop"), whole(9), whole(7), whole(1), text("iss"), text("AAAAAAAAAAAAAAAAAAAAAA"), text("a b"), text("ann")},
	}
}

// place tells where a key stands in the map.
func place(key string) int { return slices.Index(shopMap().Keys, key) }

// shopMapWith is the example's map with another item at a key.
func shopMapWith(key string, item api.Value) api.Value {
	v := shopMap()
	v.Items[place(key)] = item
	return v
}

// shopMapBut is the example's map with a change.
func shopMapBut(change func(v *api.Value)) api.Value {
	v := shopMap()
	change(&v)
	return v
}

// endless is a list that is an item of itself.
func endless() api.Value {
	v := list(null(), null())
	v.Items[1] = v
	return v
}

func pick[T any](r *rand.Rand, l ...T) T { return l[r.Intn(len(l))] }

func drawName(r *rand.Rand) string {
	var b strings.Builder
	for b.Len() < 1+r.Intn(61) {
		b.WriteRune(pick(r, 'a', 'Z', ' ', '!', '~', '/', 'é', '�', 0x80, 0x2028, 0x1f600, 0x10ffff))
	}
	return b.String()
}

func drawScope(r *rand.Rand) string {
	b := make([]byte, 1+r.Intn(1+r.Intn(32)))
	for i := range b {
		b[i] = pick[byte](r, '!', '#', '~', 'a', 'b', 'B', ':', '[', ']', ',')
	}
	return string(b)
}

// drawClaims tells some claims that may be.
func drawClaims(r *rand.Rand) api.Claims {
	c := api.Claims{Iss: drawName(r), Sub: drawName(r), Client: drawName(r), Aud: drawName(r)}
	for range r.Intn(17) {
		c.Scopes = append(c.Scopes, drawScope(r))
	}
	c.Scopes, _ = wantedSet(c.Scopes)
	c.Grant = pick(r, 1, 2, 1<<32, top, 1+uint64(r.Int63n(top)))
	c.Exp = pick(r, 1, 2, top, 1+r.Int63n(top))
	c.Iat = pick(r, 0, c.Exp-1, r.Int63n(c.Exp))
	r.Read(c.ID[:])
	if r.Intn(8) == 0 {
		c.ID = pick(r, api.ID{}, api.ID{15: 1}, api.ID(slices.Repeat([]byte{255}, 16)))
	}
	return c
}
