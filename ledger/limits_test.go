package ledger_test

import (
	"math"
	"reflect"
	"strings"
	"testing"

	"postern/api"
	"postern/ledger"
)

// wrongs tells rows that may not be, each for one reason alone.
func wrongs() map[string]any {
	long := strings.Repeat("x", 257)
	full := make([]string, 17)
	all := map[string]any{
		"the configuration's engine below 0":    api.Config{Engine: -1},
		"the configuration's engine too great":  api.Config{Engine: 256},
		"the configuration's engine far below":  api.Config{Engine: math.MinInt},
		"the shift's From below 0":              api.Shift{From: -1},
		"the shift's From too great":            api.Shift{From: 256},
		"the shift's To below 0":                api.Shift{To: -1},
		"the shift's To too great":              api.Shift{To: 256},
		"the shift's To, of which a byte is 1":  api.Shift{To: 1<<32 + 1},
		"a grant's engine below 0":              api.Grant{Engine: -1},
		"a grant's engine too great":            api.Grant{Engine: 256},
		"a grant's engine far above":            api.Grant{Engine: math.MaxInt},
		"a ring of too many keys":               api.Ring{Keys: make([]api.Key, 256)},
		"a ring of far too many keys":           api.Ring{Keys: make([]api.Key, 65537)},
		"a list whose form is too long":         make(revoked, 7944),
		"a list of all that its count tells":    make(revoked, 65535),
		"a list of too many entries":            make(revoked, 65536),
		"a list of one entry beyond its count":  make(revoked, 65537),
		"a user's name too long for a key":      api.User{Name: strings.Repeat("n", 252)},
		"a user's name of 256 bytes":            api.User{Name: strings.Repeat("n", 256)},
		"a client's ID too long for a key":      api.Client{ID: strings.Repeat("i", 252)},
		"a client's ID of 256 bytes":            api.Client{ID: strings.Repeat("i", 256)},
		"a consent too long for a key":          api.Consent{User: strings.Repeat("u", 248)},
		"a consent too long for a key, client":  api.Consent{Client: strings.Repeat("c", 248)},
		"a consent too long for a key, by both": api.Consent{User: strings.Repeat("u", 124), Client: strings.Repeat("c", 124)},
		"too many redirects":                    api.Client{Redirects: full[:9]},
		"as many redirects as scopes may be":    api.Client{Redirects: full[:16]},
		"256 redirects":                         api.Client{Redirects: make([]string, 256)},
		"too many scopes of a client":           api.Client{Scopes: full},
		"256 scopes of a client":                api.Client{Scopes: make([]string, 256)},
		"too many scopes of a consent":          api.Consent{Scopes: full},
		"too many scopes of a code":             api.Code{Scopes: full},
		"too many scopes of a grant":            api.Grant{Scopes: full},
		"too many scopes of a held token":       api.Held{Claims: api.Claims{Scopes: full}},
	}
	for _, text := range []string{long, strings.Repeat("x", 1<<20), strings.Repeat("x", 1<<20+1)} {
		for what, row := range map[string]any{
			"issuer":            api.Config{Issuer: text},
			"user's name":       api.User{Name: text},
			"client's ID":       api.Client{ID: text},
			"client's Aud":      api.Client{Aud: text},
			"redirect":          api.Client{Redirects: []string{"a", text}},
			"client's scope":    api.Client{Scopes: []string{"a", text}},
			"consent's user":    api.Consent{User: text},
			"consent's client":  api.Consent{Client: text},
			"consent's scope":   api.Consent{Scopes: []string{text}},
			"session's user":    api.Session{User: text},
			"code's user":       api.Code{User: text},
			"code's client":     api.Code{Client: text},
			"code's redirect":   api.Code{Redirect: text},
			"code's scope":      api.Code{Scopes: []string{text, "b"}},
			"code's challenge":  api.Code{Challenge: text},
			"grant's user":      api.Grant{User: text},
			"grant's client":    api.Grant{Client: text},
			"grant's scope":     api.Grant{Scopes: []string{text}},
			"held one's Iss":    api.Held{Claims: api.Claims{Iss: text}},
			"held one's Sub":    api.Held{Claims: api.Claims{Sub: text}},
			"held one's Client": api.Held{Claims: api.Claims{Client: text}},
			"held one's Aud":    api.Held{Claims: api.Claims{Aud: text}},
			"held one's scope":  api.Held{Claims: api.Claims{Scopes: []string{text}}},
		} {
			all[what+" of too many bytes: "+num(uint64(len(text)), 4)] = row
		}
	}
	return all
}

// TestP13_3Wrong: a row that may not be changes nothing; the error stays, and is Commit's.
func TestP13_3Wrong(t *testing.T) {
	for what, row := range wrongs() {
		_, s := started(t, wide, samples()...)
		before := storeOf(s)
		x := ledger.Begin(s)
		x.SetClock(1)
		put(x, row)
		wantErrno(t, what, x.Err(), api.ErrLedgerRow)
		put(x, zeroOf(row))
		wantErrno(t, what+", behind another", x.Err(), api.ErrLedgerRow)
		wantErrno(t, what+": Commit", x.Commit(), api.ErrLedgerRow)
		wantErrno(t, what+": Err", x.Err(), api.ErrTableEnd)
		if storeOf(s) != before {
			t.Errorf("%q has changed the store", what)
		}
	}
	x := begun(t, samples()...)
	x.PutUser(api.User{Name: strings.Repeat("n", 257)})
	wantFailed(t, "a name of 257 bytes", x, api.ErrLedgerRow)
}

// TestP13_3Place: a row stands in the place of one that has its key, and of no other.
func TestP13_3Place(t *testing.T) {
	for _, row := range samples() {
		what := reflect.TypeOf(row).Name()
		x := begun(t, samples()...)
		other := changed(row)
		put(x, other)
		for _, r := range samples() {
			if reflect.TypeOf(r) == reflect.TypeOf(row) {
				r = other
			}
			wantRow(t, what, x, r)
			if !alone(r) {
				wantSame(t, what, list(x, r), []any{r})
			}
		}
		put(x, row)
		wantRow(t, what+", again", x, row)
		wantErrno(t, what, x.Err(), api.OK)
	}
}

// changed tells another row that has the key of this one.
func changed(row any) any {
	switch r := row.(type) {
	case api.Config:
		r.Issuer += "!"
		return r
	case clock:
		return r + 1
	case next:
		return r + 1
	case api.Shift:
		r.On = !r.On
		return r
	case api.Ring:
		r.Keys = r.Keys[1:]
		return r
	case revoked:
		return r[1:]
	case api.User:
		r.Meter.At++
		return r
	case api.Client:
		r.Redirects = nil
		return r
	case api.Consent:
		r.Scopes = nil
		return r
	case api.Session:
		r.Exp++
		return r
	case api.Code:
		r.Grant++
		return r
	case api.Grant:
		r.Issues++
		return r
	case api.Refresh:
		r.Exp++
		return r
	case api.Held:
		r.Kid++
		return r
	}
	panic("no row")
}

// TestP13_3Drop: Drop tells whether the row was there, and takes it away, and no other.
func TestP13_3Drop(t *testing.T) {
	for _, row := range samples() {
		if alone(row) {
			continue
		}
		what := reflect.TypeOf(row).Name()
		x := begun(t, samples()...)
		wantBool(t, what+", none", drop(x, zeroOf(row)), false)
		wantBool(t, what, drop(x, row), true)
		wantBool(t, what+", again", drop(x, row), false)
		wantNone(t, what, x, row)
		wantInt(t, what, len(list(x, row)), 0)
		put(x, changed(row))
		wantRow(t, what+", put again", x, changed(row))
		wantBool(t, what+", own", drop(x, row), true)
		for _, r := range samples() {
			if reflect.TypeOf(r) != reflect.TypeOf(row) {
				wantRow(t, what, x, r)
			}
		}
		put(x, zeroOf(row))
		wantBool(t, what+", the zero one", drop(x, zeroOf(row)), true)
		wantErrno(t, what, x.Err(), api.OK)
	}
}

// TestP13_3Keys: keys that no row has are those of none, however long; they are no error, and reach no other pair.
func TestP13_3Keys(t *testing.T) {
	_, s := started(t, wide, samples()...)
	for _, letter := range "UCO" {
		lay(t, s, string(letter), "no row")
		lay(t, s, string(letter)+strings.Repeat("\x00", 255), "no row")
	}
	x := ledger.Begin(s)
	for _, n := range []int{1, 247, 248, 251, 252, 256, 257, 1 << 20, 1<<20 + 1, 1 << 22} {
		long := strings.Repeat("\x00", n)
		for _, row := range []any{api.User{Name: long}, api.Client{ID: long}, api.Consent{User: long}, api.Consent{Client: long}, api.Consent{User: long, Client: long}} {
			wantNone(t, "a long key", x, row)
			wantBool(t, "Drop of a long key", drop(x, row), false)
			wantErrno(t, "a long key", x.Err(), api.OK)
		}
	}
	if got := storeOf(s); pairsOf(x.Range(nil)) != got {
		t.Error("something was taken away")
	}
}
