package ledger_test

import (
	"reflect"
	"strings"
	"testing"

	"postern/api"
	"postern/ledger"
)

// spoil writes over each list that a row reaches, to its capacity.
func spoil(row any) { spoilValue(reflect.ValueOf(row)) }

func spoilValue(v reflect.Value) {
	switch v.Kind() {
	case reflect.Struct:
		for i := range v.NumField() {
			spoilValue(v.Field(i))
		}
	case reflect.Slice:
		v = v.Slice(0, v.Cap())
		for i := range v.Len() {
			spoilValue(v.Index(i))
			v.Index(i).Set(spoiltOf(v.Index(i).Type()))
		}
	}
}

// spoiltOf tells what no test's row has.
func spoiltOf(of reflect.Type) reflect.Value {
	switch of.Kind() {
	case reflect.String:
		return reflect.ValueOf("spoilt").Convert(of)
	case reflect.Interface:
		return reflect.ValueOf("spoilt")
	}
	return reflect.Zero(of)
}

// listed tells rows of each kind that has a list, of more than one item.
func listed() []any {
	return []any{
		api.Ring{Keys: []api.Key{{Kid: 1, Secret: block(1)}, {Kid: 2, Until: 5}}, Next: 3},
		revoked{{Grant: 1, Exp: 9}, {Whole: true, Grant: 2, Exp: 4}},
		api.Client{ID: "a", Redirects: []string{"r", "s"}, Scopes: []string{"t", "u"}},
		api.Client{ID: "b", Redirects: []string{"r", "s"}, Scopes: []string{"t", "u"}},
		api.Consent{User: "a", Scopes: []string{"t", "u"}},
		api.Consent{User: "b", Scopes: []string{"t", "u"}},
		api.Code{Scopes: []string{"t", "u"}},
		api.Code{ID: id(1), Scopes: []string{"t", "u"}},
		api.Grant{Scopes: []string{"t", "u"}},
		api.Grant{N: 1, Scopes: []string{"t", "u"}},
		heldWith(api.Claims{Scopes: []string{"t", "u"}}),
		heldWith(api.Claims{ID: id(1), Scopes: []string{"t", "u"}}),
	}
}

// TestP13_9In: what is handed in is neither changed nor kept, nor is the room behind it.
func TestP13_9In(t *testing.T) {
	_, s := started(t, wide)
	x := ledger.Begin(s)
	handed := listed()
	for _, row := range handed {
		put(x, row)
	}
	x.SetClock(4)
	wantSame(t, "handed in", handed, listed())
	room := []string{"t", "u", "room"}
	x.PutConsent(api.Consent{User: "c", Scopes: room[:2]})
	x.PutClient(api.Client{ID: "c", Redirects: room[:1], Scopes: room[1:2]})
	wantSame(t, "room", room, []string{"t", "u", "room"})
	spoil(room)
	for _, row := range handed {
		spoil(row)
	}
	for _, row := range listed() {
		wantRow(t, "kept", x, row)
	}
	wantRow(t, "room", x, api.Consent{User: "c", Scopes: []string{"t", "u"}})
	wantRow(t, "room", x, api.Client{ID: "c", Redirects: []string{"t"}, Scopes: []string{"u"}})
	wantErrno(t, "Commit", x.Commit(), api.OK)
	for _, row := range listed() {
		wantRow(t, "committed", ledger.Begin(s), row)
	}
}

// TestP13_9Told: what is told is the caller's own, each time anew; of the store's rows and of the transaction's own.
func TestP13_9Told(t *testing.T) {
	_, s := started(t, wide, listed()...)
	for _, own := range []bool{false, true} {
		x := ledger.Begin(s)
		if own {
			for _, row := range listed() {
				put(x, row)
			}
		}
		for range 3 {
			for _, row := range listed() {
				got, _ := get(x, row)
				spoil(got)
				if !alone(row) {
					spoil(list(x, row))
				}
			}
			spoil(x.State())
			spoil(x.Clients())
			spoil(x.Helds())
			for _, row := range listed() {
				wantRow(t, "told", x, row)
			}
		}
		wantErrno(t, "Err", x.Err(), api.OK)
	}
}

// TestP13_9Lists: no two lists of one answer share their room.
func TestP13_9Lists(t *testing.T) {
	x := begun(t, listed()...)
	c, _ := x.Client("a")
	spoil(c.Redirects)
	wantSame(t, "one client", c.Scopes, []string{"t", "u"})
	clients, grants, helds := x.Clients(), x.Grants(), x.Helds()
	spoil(clients[0])
	wantSame(t, "clients", clients[1], api.Client{ID: "b", Redirects: []string{"r", "s"}, Scopes: []string{"t", "u"}})
	_ = append(grants[0].Scopes, "more")
	spoil(grants[0])
	wantSame(t, "grants", grants[1], api.Grant{N: 1, Scopes: []string{"t", "u"}})
	spoil(helds[0])
	wantSame(t, "helds", helds[1], heldWith(api.Claims{ID: id(1), Scopes: []string{"t", "u"}}))
	state := x.State()
	spoil(state.Clients)
	spoil(state.Consents)
	wantSame(t, "State", state.Grants, x.Grants())
}

// TestP13_9Expire: Expire changes nothing that was told or handed in.
func TestP13_9Expire(t *testing.T) {
	x := begun(t)
	ring := api.Ring{Keys: []api.Key{{Kid: 1, Until: 3}, {Kid: 2}, {Kid: 3, Until: 5}}, Next: 4}
	entries := []api.Revoked{{Grant: 1, Exp: 3}, {Grant: 2, Exp: 9}, {Grant: 3, Exp: 2}}
	x.SetRing(ring)
	x.SetRevoked(entries)
	x.SetClock(3)
	was, list := x.Ring(), x.Revoked()
	wantInt(t, "Expire", x.Expire(), 3)
	for _, r := range []api.Ring{ring, was} {
		wantSame(t, "the ring", r, api.Ring{Keys: []api.Key{{Kid: 1, Until: 3}, {Kid: 2}, {Kid: 3, Until: 5}}, Next: 4})
	}
	for _, l := range [][]api.Revoked{entries, list} {
		wantSame(t, "the list", l, []api.Revoked{{Grant: 1, Exp: 3}, {Grant: 2, Exp: 9}, {Grant: 3, Exp: 2}})
	}
}

// TestP13_9Nil: nil and empty lists are one, handed in.
func TestP13_9Nil(t *testing.T) {
	var told []string
	for _, none := range [][]string{nil, {}, make([]string, 0, 9)} {
		_, s := started(t, wide)
		x := ledger.Begin(s)
		x.PutClient(api.Client{Redirects: none, Scopes: none})
		x.PutConsent(api.Consent{Scopes: none})
		x.PutGrant(api.Grant{Scopes: none})
		x.SetRevoked(make([]api.Revoked, len(none), cap(none)))
		x.SetRing(api.Ring{Keys: make([]api.Key, len(none), cap(none))})
		if none == nil {
			x.SetRevoked(nil)
			x.SetRing(api.Ring{})
		}
		wantErrno(t, "Commit", x.Commit(), api.OK)
		told = append(told, storeOf(s))
	}
	if told[0] != told[1] || told[0] != told[2] {
		t.Errorf("%v", told)
	}
}

// TestP13_9Apart: transactions over one store, and over two, know nothing of one another's changes, errors and ends.
func TestP13_9Apart(t *testing.T) {
	_, s := started(t, wide, clock(1))
	_, other := started(t, wide, clock(1))
	lay(t, s, "c", "no row")
	x, y, z := ledger.Begin(s), ledger.Begin(s), ledger.Begin(other)
	x.SetClock(2)
	wantInt(t, "another one", int(y.Clock()), 1)
	wantInt(t, "another store's", int(z.Clock()), 1)
	x.Config()
	wantErrno(t, "its own error", x.Err(), api.ErrLedgerBad)
	wantErrno(t, "another one", y.Err(), api.OK)
	z.Drop()
	y.SetClock(3)
	wantErrno(t, "Commit", y.Commit(), api.OK)
	wantInt(t, "the store", int(ledger.Begin(s).Clock()), 3)
	wantInt(t, "another store", int(ledger.Begin(other).Clock()), 1)
	wantErrno(t, "its own error", x.Err(), api.ErrLedgerBad)
}

// TestP13_9Ends: each call ends without a panic, whatever is handed in and whatever pairs stand there.
func TestP13_9Ends(t *testing.T) {
	_, s := started(t, wide)
	for letter := range 256 {
		for _, more := range []string{"", "\x00", "\xff\xff\xff\xff", "\x00\x00\x00\x01a", strings.Repeat("\x00", 16), strings.Repeat("\xff", 255)} {
			lay(t, s, string([]byte{byte(letter)})+more, more+more)
		}
	}
	for _, n := range []int{0, 1, 255, 256, 257, 65535, 65536, 65537, 1 << 20, 1<<20 + 1} {
		text, many := strings.Repeat("\xff", n), make([]string, n)
		for _, row := range []any{
			api.Config{Issuer: text, Engine: n}, clock(-n), next(n), api.Shift{From: -n, To: n}, api.Ring{Keys: make([]api.Key, n)}, make(revoked, n),
			api.User{Name: text}, api.Client{ID: text, Redirects: many}, api.Client{Scopes: many}, api.Consent{User: text, Client: text, Scopes: many},
			api.Session{User: text}, api.Code{User: text, Scopes: many}, api.Grant{User: text, Scopes: many, Engine: -n}, api.Refresh{}, heldWith(api.Claims{Iss: text, Scopes: many}),
		} {
			x := ledger.Begin(s)
			if !alone(row) {
				drop(x, row)
				list(x, row)
			}
			x = ledger.Begin(s)
			get(x, row)
			x = ledger.Begin(s)
			put(x, row)
			get(x, row)
			x.State()
			x = ledger.Begin(s)
			put(x, row)
			x.Expire()
			x.Rows()
			x.Commit()
		}
	}
}
