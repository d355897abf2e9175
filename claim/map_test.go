package claim_test

import (
	"encoding/base64"
	"math/rand"
	"slices"
	"strconv"
	"strings"
	"testing"

	"postern/api"
	"postern/claim"
	"postern/terse"
)

func wantOf(t *testing.T, what string, v api.Value, want api.Errno) {
	t.Helper()
	c, e := claim.Of(v)
	if e != want {
		t.Errorf("%s: Of(%s) = %d, want %d", what, shown(v), e, want)
	}
	if e != api.OK && !alike(c, api.Claims{}) {
		t.Errorf("%s: Of(%s) tells claims beside %d", what, shown(v), e)
	}
}

// shown is a value as far as it can be printed: what is no tree may have no end.
func shown(v api.Value) string {
	s, e := terse.Print(v)
	if e != api.OK {
		return "no tree"
	}
	return s[:min(len(s), 500)]
}

func TestP6_4Map(t *testing.T) {
	v, e := claim.Map(shop())
	if e != api.OK || !same(v, shopMap()) {
		t.Errorf("Map of the example: %v, %d", v, e)
	}
	if s, e := terse.Print(v); e != api.OK || s != `{"aud":"api","client_id":"shop","exp":9,"grant":7,"iat":1,"iss":"iss","jti":"AAAAAAAAAAAAAAAAAAAAAA","scope":"a b","sub":"ann"}` {
		t.Errorf("it is printed %s, %d", s, e)
	}
	r := rand.New(rand.NewSource(5))
	for range 3000 {
		c := drawClaims(r)
		want := shopMap()
		for key, item := range map[string]api.Value{
			"aud": text(c.Aud), "client_id": text(c.Client), "exp": whole(c.Exp), "grant": whole(int64(c.Grant)), "iat": whole(c.Iat), "iss": text(c.Iss),
			"jti": text(base64.RawURLEncoding.EncodeToString(c.ID[:])), "scope": text(strings.Join(c.Scopes, " ")), "sub": text(c.Sub),
		} {
			want.Items[place(key)] = item
		}
		if v, e := claim.Map(c); e != api.OK || !same(v, want) || terse.Check(v) != api.OK {
			t.Errorf("Map(%v) = %v, %d, want %v", c, v, e, want)
		}
	}
}

func TestP6_4Of(t *testing.T) {
	if c, e := claim.Of(shopMap()); e != api.OK || !alike(c, shop()) {
		t.Errorf("Of the example's map: %v, %d", c, e)
	}
	// What is nil elsewhere may be empty.
	c, e := claim.Of(shopMapBut(func(v *api.Value) {
		for i := range v.Items {
			v.Items[i].Keys, v.Items[i].Items = []string{}, []api.Value{}
		}
	}))
	if e != api.OK || !alike(c, shop()) {
		t.Errorf("Of the example's map with empty lists: %v, %d", c, e)
	}
	for _, v := range []api.Value{
		shopMapWith("grant", whole(1)), shopMapWith("grant", whole(top)), shopMapWith("iat", whole(0)), shopMapWith("iat", whole(8)), shopMapWith("exp", whole(2)), shopMapWith("exp", whole(top)),
		shopMapWith("scope", text("")), shopMapWith("scope", text("a")), shopMapWith("scope", text(strings.Join(many(16), " "))), shopMapWith("jti", text("_____________________w")), shopMapWith("sub", text("é b")),
	} {
		wantOf(t, "another good map", v, api.OK)
	}
}

// TestP6_4Kinds: each item of the kind that it has, and no other.
func TestP6_4Kinds(t *testing.T) {
	others := []api.Value{{}, null(), yes(false), yes(true), whole(1), text("a"), text("1"), list(), list(text("a")), {Kind: api.KindMap}, shopMap(), {Kind: 7}, {Kind: -1}, {Kind: 7, Text: "a"}, endless()}
	for i, item := range shopMap().Items {
		for _, other := range others {
			if other.Kind != item.Kind {
				wantOf(t, "another kind", shopMapWith(shopMap().Keys[i], other), api.ErrClaimForm)
			}
		}
		for _, change := range []func(v *api.Value){
			func(v *api.Value) { v.Flag = true }, func(v *api.Value) { v.Keys = []string{"a"} }, func(v *api.Value) { v.Items = []api.Value{null()} }, func(v *api.Value) { v.Items = []api.Value{endless()} },
			func(v *api.Value) {
				if v.Kind == api.KindText {
					v.N = 1
				} else {
					v.Text = "a"
				}
			},
		} {
			change(&item)
			wantOf(t, "a field that is not used", shopMapWith(shopMap().Keys[i], item), api.ErrClaimForm)
			item = shopMap().Items[i]
		}
	}
	for _, v := range append(others, list(shopMap()), shopMapBut(func(v *api.Value) { v.Kind = api.KindList }), shopMapBut(func(v *api.Value) { v.Kind, v.Keys = api.KindList, nil }), shopMapBut(func(v *api.Value) { v.Flag = true }), shopMapBut(func(v *api.Value) { v.N = 1 }), shopMapBut(func(v *api.Value) { v.Text = "a" })) {
		if !same(v, shopMap()) {
			wantOf(t, "no map of claims", v, api.ErrClaimForm)
		}
	}
}

// TestP6_4Keys: these keys, in this order.
func TestP6_4Keys(t *testing.T) {
	n := len(shopMap().Keys)
	for i := range n {
		for j := range i {
			wantOf(t, "two entries swapped", shopMapBut(func(v *api.Value) {
				v.Keys[i], v.Keys[j] = v.Keys[j], v.Keys[i]
				v.Items[i], v.Items[j] = v.Items[j], v.Items[i]
			}), api.ErrClaimForm)
			wantOf(t, "two keys swapped", shopMapBut(func(v *api.Value) { v.Keys[i], v.Keys[j] = v.Keys[j], v.Keys[i] }), api.ErrClaimForm)
			wantOf(t, "a key twice", shopMapBut(func(v *api.Value) { v.Keys[i] = v.Keys[j] }), api.ErrClaimForm)
		}
		wantOf(t, "an entry left out", shopMapBut(func(v *api.Value) { v.Keys, v.Items = slices.Delete(v.Keys, i, i+1), slices.Delete(v.Items, i, i+1) }), api.ErrClaimForm)
		wantOf(t, "a key left out", shopMapBut(func(v *api.Value) { v.Keys = slices.Delete(v.Keys, i, i+1) }), api.ErrClaimForm)
		wantOf(t, "an item left out", shopMapBut(func(v *api.Value) { v.Items = slices.Delete(v.Items, i, i+1) }), api.ErrClaimForm)
		for _, key := range []string{"", "x", "Sub", "\xff", shopMap().Keys[i] + " ", strings.ToUpper(shopMap().Keys[i])} {
			wantOf(t, "another key", shopMapBut(func(v *api.Value) { v.Keys[i] = key }), api.ErrClaimForm)
		}
	}
	for i := range n + 1 {
		for _, item := range []api.Value{null(), text("a"), whole(1)} {
			wantOf(t, "an entry more", shopMapBut(func(v *api.Value) { v.Keys, v.Items = slices.Insert(v.Keys, i, "x"), slices.Insert(v.Items, i, item) }), api.ErrClaimForm)
		}
	}
	wantOf(t, "a key more", shopMapBut(func(v *api.Value) { v.Keys = append(v.Keys, "x") }), api.ErrClaimForm)
	wantOf(t, "an item more", shopMapBut(func(v *api.Value) { v.Items = append(v.Items, text("x")) }), api.ErrClaimForm)
	wantOf(t, "no keys", shopMapBut(func(v *api.Value) { v.Keys = nil }), api.ErrClaimForm)
	wantOf(t, "no items", shopMapBut(func(v *api.Value) { v.Items = nil }), api.ErrClaimForm)
}

// badForms are items that have the right kind, but that no claims have.
func badForms() map[string][]api.Value {
	l := map[string][]api.Value{"grant": {whole(0), whole(-1), whole(-top - 1)}}
	for _, s := range []string{"b a", "a a", "a a b", "a  b", " a", "a ", " ", "é", "a\tb", "\"", strings.Repeat("s", 33), strings.Join(many(17), " "), "a b a", "a B", "b ab"} {
		l["scope"] = append(l["scope"], text(s))
	}
	for _, s := range []string{"", "AAAAAAAAAAAAAAAAAAAAA", "AAAAAAAAAAAAAAAAAAAAAAA", "AAAAAAAAAAAAAAAAAAAAAAAA", "AAAAAAAAAAAAAAAAAAAAAB", "AAAAAAAAAAAAAAAAAAAAAP", "AAAAAAAAAAAAAAAAAAAAAI", "AAAAAAAAAAAAAAAAAAAAA=", "AAAAAAAAAAAAAAAAAAAA==", "AAAAAAAAAAAAAAAAAAAAAA==", "AAAAAAAAAAA+AAAAAAAAAA", " AAAAAAAAAAAAAAAAAAAAA", "ééééééééééé", "AA", strings.Repeat("A", 44)} {
		l["jti"] = append(l["jti"], text(s))
	}
	return l
}

func TestP6_4Form(t *testing.T) {
	for key, items := range badForms() {
		for _, item := range items {
			wantOf(t, key, shopMapWith(key, item), api.ErrClaimForm)
		}
	}
	// Just these 64 letters, and behind the last whole byte no bit.
	for c := range 256 {
		letter := string([]byte{byte(c)})
		want := api.OK
		if !strings.Contains("ABCDEFGHIJKLMNOPQRSTUVWXYZabcdefghijklmnopqrstuvwxyz0123456789-_", letter) {
			want = api.ErrClaimForm
		}
		wantOf(t, "a letter", shopMapWith("jti", text(letter+strings.Repeat("A", 21))), want)
		if !strings.Contains("AQgw", letter) {
			want = api.ErrClaimForm
		}
		wantOf(t, "the last letter", shopMapWith("jti", text(strings.Repeat("A", 21)+letter)), want)
	}
}

// TestP6_4Check: behind the form comes Check's error, and each ErrClaimForm ahead of it.
func TestP6_4Check(t *testing.T) {
	bad := []struct {
		v    api.Value
		want api.Errno
	}{
		{shopMapWith("exp", whole(1)), api.ErrClaimTime}, {shopMapWith("exp", whole(0)), api.ErrClaimTime}, {shopMapWith("exp", whole(-top-1)), api.ErrClaimTime}, {shopMapWith("iat", whole(-1)), api.ErrClaimTime}, {shopMapWith("iat", whole(9)), api.ErrClaimTime}, {shopMapWith("iat", whole(top)), api.ErrClaimTime},
		{shopMapBut(func(v *api.Value) { v.Items[place("exp")], v.Items[place("aud")] = whole(1), text("") }), api.ErrClaimName},
	}
	for _, key := range []string{"aud", "client_id", "iss", "sub"} {
		for _, s := range []string{"", "a\n", "\x7f", `"`, `\`, strings.Repeat("n", 65)} {
			bad = append(bad, struct {
				v    api.Value
				want api.Errno
			}{shopMapWith(key, text(s)), api.ErrClaimName})
		}
		wantOf(t, "no tree", shopMapWith(key, text("\xff")), api.ErrClaimForm)
	}
	for _, c := range bad {
		wantOf(t, "claims that may not be", c.v, c.want)
		for key, items := range badForms() {
			for _, item := range items {
				v := c.v
				v.Items = slices.Clone(v.Items)
				v.Items[place(key)] = item
				wantOf(t, "neither form nor claims", v, api.ErrClaimForm)
			}
		}
		v := c.v
		v.Keys = append(slices.Clone(v.Keys[:8]), "x")
		wantOf(t, "neither keys nor claims", v, api.ErrClaimForm)
	}
}

// TestP6_6Map: Of(Map(c)) is c, by way of its text too.
func TestP6_6Map(t *testing.T) {
	r := rand.New(rand.NewSource(6))
	longest := strings.Repeat("n", 64)
	claims := []api.Claims{shop(), {Iss: longest, Sub: longest, Client: longest, Aud: longest, Scopes: many(16), Grant: top, Iat: top - 1, Exp: top}, {Iss: " ", Sub: "é", Client: "�", Aud: "/", Grant: 1, Exp: 1}}
	for range 3000 {
		claims = append(claims, drawClaims(r))
	}
	for _, c := range claims {
		v, e := claim.Map(c)
		if back, f := claim.Of(v); e != api.OK || f != api.OK || !alike(back, c) || !claim.Same(back, c) {
			t.Errorf("Of(Map(%v)) = %v, %d", c, back, f)
		}
		s, _ := terse.Print(v)
		w, _ := terse.Parse(s, 1)
		if back, f := claim.Of(w); f != api.OK || !alike(back, c) {
			t.Errorf("Of what is read from %s: %v, %d", s, back, f)
		}
	}
}

// TestP6_6Of: what Of takes, Map of its claims is, field by field.
func TestP6_6Of(t *testing.T) {
	r := rand.New(rand.NewSource(7))
	taken := 0
	for range 30000 {
		v, _ := claim.Map(drawClaims(r))
		for range 1 + r.Intn(2) {
			spoilOne(r, &v)
		}
		c, e := claim.Of(v)
		if e != api.OK {
			continue
		}
		taken++
		if w, f := claim.Map(c); f != api.OK || !same(v, w) {
			t.Errorf("Of(%v) = %v, but Map of that is %v, %d", v, c, w, f)
		}
	}
	if taken < 1000 || taken > 29000 {
		t.Errorf("%d of 30000 are taken", taken)
	}
}

// spoilOne changes something of a map of claims; it may stay one.
func spoilOne(r *rand.Rand, v *api.Value) {
	i := r.Intn(len(v.Items))
	item := &v.Items[i]
	switch r.Intn(6) {
	case 0:
		j := r.Intn(len(v.Items))
		v.Items[i], v.Items[j] = v.Items[j], v.Items[i]
	case 1:
		item.N += pick(r, -1, 1, int64(r.Uint64()))
	case 2:
		b := []byte(item.Text + "A")
		b[r.Intn(len(b))] = pick[byte](r, 'A', 'Q', 'B', ' ', 0xff, '"', '-', '_')
		item.Text = string(b[:len(b)-r.Intn(2)])
	case 3:
		item.Text = strconv.Itoa(r.Intn(100)) + pick(r, "", " ", " 7", " 1")
	case 4:
		v.Keys[i] = pick(r, v.Keys[r.Intn(len(v.Keys))], v.Keys[i])
	default:
		item.Kind = pick(r, item.Kind, api.KindText, api.KindInt)
	}
}
