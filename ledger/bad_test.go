package ledger_test

import (
	"math/rand"
	"reflect"
	"strings"
	"testing"

	"postern/api"
	"postern/ledger"
	"postern/store"
)

// bad is a pair that is no row, beneath the key of a sample.
type bad struct {
	what, key, value string
	row              any
}

// spoilt tells pairs that are no rows under the keys of rows, of each kind.
func spoilt() []bad {
	var l []bad
	for _, row := range append(samples(), edges()...) {
		name, key, value := reflect.TypeOf(row).Name(), keyOf(row), formOf(row)
		if len(value) < 1<<18 {
			l = append(l, bad{name + ", a byte more", key, value + "\x00", row})
		}
		l = append(l, bad{name + ", no bytes", key, "", row}, bad{name + ", a byte less", key, value[:len(value)-1], row})
	}
	for _, row := range samples() {
		name, key, value := reflect.TypeOf(row).Name(), keyOf(row), formOf(row)
		for n := range value {
			l = append(l, bad{name + ", a beginning", key, value[:n], row})
		}
		if !alone(row) {
			l = append(l, bad{name + ", another key's row", key, formOf(zeroOf(row)), row}, bad{name + ", another key's row", keyOf(zeroOf(row)), value, zeroOf(row)})
		}
	}
	return append(l, outside()...)
}

// outside tells forms of rows that may not be, and what is no form inside.
func outside() []bad {
	long, full := strings.Repeat("x", 257), make([]string, 17)
	id16, block32, eight := strings.Repeat("\x00", 16), counted(strings.Repeat("\x00", 32)), strings.Repeat("\x00", 8)
	l := []bad{
		{what: "the shift's flag", value: "\x02" + "\x00\x00" + eight + eight, row: api.Shift{}},
		{what: "a ring's secret too short", value: eight + "\x01" + eight + counted(strings.Repeat("\x00", 31)) + eight, row: api.Ring{}},
		{what: "a ring's secret too long", value: eight + "\x01" + eight + counted(strings.Repeat("\x00", 33)) + eight, row: api.Ring{}},
		{what: "a ring's count too great", value: eight + "\x02" + eight + block32 + eight, row: api.Ring{}},
		{what: "a ring's count too small", value: eight + "\x00" + eight + block32 + eight, row: api.Ring{}},
		{what: "an entry's flag", value: "\x00\x01" + "\xff" + eight + id16 + eight, row: revoked{}},
		{what: "a list's count too great", value: "\x00\x02" + "\x00" + eight + id16 + eight, row: revoked{}},
		{what: "a list's count far too great", value: "\xff\xff", row: revoked{}},
		{what: "a list's count too small", value: "\x00\x00" + "\x00" + eight + id16 + eight, row: revoked{}},
		{what: "a user's digest too short", value: counted("") + id16 + counted(strings.Repeat("\x00", 31)) + eight + eight, row: api.User{}},
		{what: "a user's digest too long", value: counted("") + id16 + counted(strings.Repeat("\x00", 33)) + eight + eight, row: api.User{}},
		{what: "no digest", value: counted("") + id16 + counted("") + eight + eight, row: api.User{}},
		{what: "a client's flag", value: counted("") + counted("") + "\x02" + "\x00\x00" + id16 + block32, row: api.Client{}},
		{what: "a client's digest", value: counted("") + counted("") + "\x00" + "\x00\x00" + id16 + counted(strings.Repeat("\x00", 31)), row: api.Client{}},
		{what: "a grant's flag", value: eight + counted("") + counted("") + "\x00\x00" + "\x02" + id16 + eight + eight + eight + eight, row: api.Grant{}},
		{what: "nine redirects", value: formOf(api.Client{Redirects: full[:9]}), row: api.Client{}},
		{what: "17 scopes of a client", value: formOf(api.Client{Scopes: full}), row: api.Client{}},
		{what: "17 scopes of a consent", value: formOf(api.Consent{Scopes: full}), row: api.Consent{}},
		{what: "17 scopes of a code", value: formOf(api.Code{Scopes: full}), row: api.Code{}},
		{what: "17 scopes of a grant", value: formOf(api.Grant{Scopes: full}), row: api.Grant{}},
		{what: "17 scopes of a held token", value: formOf(heldWith(api.Claims{Scopes: full})), row: api.Held{}},
		{what: "255 scopes", value: counted("") + counted("") + "\xff", row: api.Consent{}},
	}
	for _, row := range []any{
		api.Config{Issuer: long}, api.Client{Aud: long}, api.Client{Redirects: []string{long}}, api.Client{Scopes: []string{"", long}},
		api.Consent{Scopes: []string{long}}, api.Session{User: long}, api.Code{User: long}, api.Code{Client: long}, api.Code{Redirect: long},
		api.Code{Scopes: []string{long, ""}}, api.Code{Challenge: long}, api.Grant{User: long}, api.Grant{Client: long}, api.Grant{Scopes: []string{long}},
		heldWith(api.Claims{Iss: long}), heldWith(api.Claims{Sub: long}), heldWith(api.Claims{Client: long}), heldWith(api.Claims{Aud: long}), heldWith(api.Claims{Scopes: []string{long}}),
	} {
		l = append(l, bad{what: "a long text of " + reflect.TypeOf(row).Name(), value: formOf(row), row: row})
	}
	for i := range l {
		l[i].key = keyOf(l[i].row)
	}
	return l
}

func heldWith(c api.Claims) api.Held { return api.Held{Claims: c} }

// over tells a transaction over a store in which this pair stands.
func (b bad) over(t *testing.T, s *store.Store) *ledger.Tx {
	t.Helper()
	lay(t, s, b.key, b.value)
	return ledger.Begin(s)
}

// TestP13_4Get: a pair under the key that is asked for, and that is no row, is told as none, and is the error.
func TestP13_4Get(t *testing.T) {
	_, s := started(t, wide)
	for _, b := range spoilt() {
		wantBool(t, b.what+": the model's isRow", isRow(b.key, b.value), false)
		x := b.over(t, s)
		got, there := get(x, b.row)
		wantSame(t, b.what, got, zeroOf(b.row))
		if _, config := b.row.(api.Config); config || !alone(b.row) {
			wantBool(t, b.what, there, false)
		}
		wantErrno(t, b.what, x.Err(), api.ErrLedgerBad)
		wantErrno(t, b.what+": Commit", x.Commit(), api.ErrLedgerBad)
		wantErrno(t, b.what+": Err", x.Err(), api.ErrTableEnd)
	}
}

// TestP13_4List: so it is of a list, for any pair beneath the letter.
func TestP13_4List(t *testing.T) {
	strays := spoilt()
	for _, row := range samples() {
		letter := keyOf(row)[:1]
		for _, beside := range []string{"", "\x00", "\xff", strings.Repeat("x", 255), keyOf(row)[1:] + "\x00", keyOf(row)[1:max(len(keyOf(row))-1, 1)]} {
			if !alone(row) {
				strays = append(strays, bad{"a stray key", letter + beside, formOf(row), row})
			}
		}
	}
	_, s := started(t, wide)
	for _, b := range strays {
		if alone(b.row) {
			continue
		}
		x := b.over(t, s)
		put(x, sampleOf(b.row))
		if b.key == keyOf(sampleOf(b.row)) {
			x.Drop()
			x = ledger.Begin(s)
		}
		wantInt(t, b.what, len(list(x, b.row)), 0)
		wantErrno(t, b.what, x.Err(), api.ErrLedgerBad)
		if e := s.Commit([]api.Change{{Key: []byte(b.key), Gone: true}}); e != api.OK {
			t.Fatal(e)
		}
	}
}

// TestP13_4Own: what stands beneath a letter, but not under the key itself, is no business of the call that asks for one row.
func TestP13_4Own(t *testing.T) {
	for _, row := range samples() {
		_, s := started(t, wide, samples()...)
		for _, more := range []string{"\x00", "x", keyOf(row)} {
			lay(t, s, keyOf(row)+more, "no row")
		}
		if !alone(row) {
			lay(t, s, keyOf(row)[:1], "no row")
			lay(t, s, keyOf(zeroOf(row)), "no row")
		}
		x := ledger.Begin(s)
		for _, r := range samples() {
			wantRow(t, "beside bad ones", x, r)
			if !alone(r) && reflect.TypeOf(r) != reflect.TypeOf(row) {
				wantSame(t, "another kind's list", list(x, r), []any{r})
			}
		}
		wantErrno(t, "Err", x.Err(), api.OK)
		wantBool(t, "Rows", x.Rows(), false)
	}
}

// TestP13_4Unread: Set, Put and Drop read no pair: they are carried out over one that is no row.
func TestP13_4Unread(t *testing.T) {
	for _, row := range samples() {
		what := reflect.TypeOf(row).Name()
		_, s := started(t, wide)
		lay(t, s, keyOf(row), "no row")
		x := ledger.Begin(s)
		put(x, row)
		wantErrno(t, what+": put", x.Err(), api.OK)
		wantRow(t, what, x, row)
		wantBool(t, what+": Rows", x.Rows(), true)
		if alone(row) {
			continue
		}
		x = ledger.Begin(s)
		wantBool(t, what+": Drop", drop(x, row), true)
		wantErrno(t, what+": Drop", x.Err(), api.OK)
		wantNone(t, what, x, row)
		wantErrno(t, what+": Commit", x.Commit(), api.OK)
		wantInt(t, what+": left", s.Len(), 0)
	}
}

// TestP13_4Stays: the first error stays, whatever is done behind it, and nothing is done any more.
func TestP13_4Stays(t *testing.T) {
	_, s := started(t, wide, samples()...)
	lay(t, s, "S", "no row")
	before := storeOf(s)
	for _, ask := range []func(x *ledger.Tx){
		func(x *ledger.Tx) { x.Sessions() },
		func(x *ledger.Tx) { x.State() },
		func(x *ledger.Tx) { x.Expire() },
	} {
		x := ledger.Begin(s)
		x.SetClock(9)
		x.PutUser(api.User{Name: "eve"})
		x.DropGrant(1<<63 + 7)
		ask(x)
		wantFailed(t, "a stray session", x, api.ErrLedgerBad)
		x = ledger.Begin(s)
		x.SetClock(9)
		x.PutUser(api.User{Name: strings.Repeat("n", 257)})
		ask(x)
		wantFailed(t, "a long name", x, api.ErrLedgerRow)
		x = ledger.Begin(s)
		ask(x)
		x.Drop()
		wantOver(t, "dropped", x)
		if storeOf(s) != before {
			t.Error("the store has changed")
		}
	}
}

// asked tells whether State, and whether Expire, reads a kind.
func asked(letter byte) (state, expire bool) {
	return strings.IndexByte("tnsUCOSDGR", letter) >= 0, strings.IndexByte("tSDRHrkG", letter) >= 0
}

// TestP13_4All: State and Expire read all that they ask for, and nothing else, ahead of all else.
func TestP13_4All(t *testing.T) {
	for _, row := range samples() {
		what := reflect.TypeOf(row).Name()
		state, expire := asked(keyOf(row)[0])
		_, s := started(t, wide, samples()...)
		lay(t, s, "t", formOf(clock(1<<60)))
		lay(t, s, keyOf(row), formOf(row)+"\x00")
		before := storeOf(s)
		x := ledger.Begin(s)
		told := x.State()
		wantErrno(t, what+": State", x.Err(), map[bool]api.Errno{true: api.ErrLedgerBad}[state])
		if state {
			wantSame(t, what+": State", told, api.State{})
		} else if told.Clock != 1<<60 || len(told.Refreshes) != 1 {
			t.Errorf("%s: State is %+v", what, told)
		}
		x = ledger.Begin(s)
		n := x.Expire()
		wantErrno(t, what+": Expire", x.Err(), map[bool]api.Errno{true: api.ErrLedgerBad}[expire])
		if wantBool(t, what+": Expire", n == 0, expire); expire {
			wantErrno(t, what+": Commit", x.Commit(), api.ErrLedgerBad)
		}
		if storeOf(s) != before {
			t.Errorf("%s: the store has changed", what)
		}
	}
}

// TestP13_10Rows: whether all pairs that it sees are rows, its own changes among them; it sets no error.
func TestP13_10Rows(t *testing.T) {
	_, s := started(t, wide)
	wantBool(t, "no pairs", ledger.Begin(s).Rows(), true)
	for _, row := range append(samples(), edges()...) {
		lay(t, s, keyOf(row), formOf(row))
	}
	wantBool(t, "rows", ledger.Begin(s).Rows(), true)
	strays := []bad{{what: "no letter", key: "x"}, {what: "no letter", key: "\x00"}, {what: "no letter", key: "\xff", value: formOf(clock(0))}, {what: "no letter", key: "u" + counted(""), value: formOf(api.User{})}}
	for _, row := range samples() {
		key, value := keyOf(row), formOf(row)
		strays = append(strays, bad{what: "a byte more in the key", key: key + "\x00", value: value})
		if !alone(row) {
			strays = append(strays, bad{what: "a byte less in the key", key: key[:len(key)-1], value: value}, bad{what: "the letter alone", key: key[:1], value: value})
		}
		for letter := range 256 {
			if other := string([]byte{byte(letter)}) + key[1:]; other != key && !isRow(other, value) {
				strays = append(strays, bad{what: "another letter", key: other, value: value})
			}
		}
	}
	for _, b := range append(strays, spoilt()...) {
		before, there := s.Get([]byte(b.key))
		x := b.over(t, s)
		wantBool(t, b.what, x.Rows(), false)
		wantErrno(t, b.what, x.Err(), api.OK)
		if e := s.Commit([]api.Change{{Key: []byte(b.key), Value: before, Gone: !there}}); e != api.OK {
			t.Fatal(e)
		}
		wantBool(t, b.what+", mended", x.Rows(), true)
		wantErrno(t, b.what, x.Commit(), api.OK)
		wantBool(t, b.what+", over", x.Rows(), false)
	}
	x := ledger.Begin(s)
	x.SetShift(api.Shift{To: 256})
	wantBool(t, "Err is not OK", x.Rows(), false)
}

// TestP13_10Own: Rows sees what the transaction has changed.
func TestP13_10Own(t *testing.T) {
	_, s := started(t, wide, samples()...)
	lay(t, s, keyOf(api.Session{}), "no row")
	lay(t, s, "c", "no row")
	x := ledger.Begin(s)
	wantBool(t, "two are none", x.Rows(), false)
	x.DropSession(api.ID{})
	wantBool(t, "one is none", x.Rows(), false)
	x.SetConfig(api.Config{})
	wantBool(t, "all are", x.Rows(), true)
	wantBool(t, "another one's", ledger.Begin(s).Rows(), false)
}

// TestP13_4Any: pairs of changed bytes, held against the shapes of the chapter's table: what is told is laid just so, and what is not told is no row.
func TestP13_4Any(t *testing.T) {
	r := rand.New(rand.NewSource(134))
	_, s := started(t, wide)
	base := append(samples(), zeros()...)
	good := 0
	for range 20000 {
		row := base[r.Intn(len(base))]
		key, value := keyOf(row), shaken(r, formOf(row))
		lay(t, s, key, value)
		x := ledger.Begin(s)
		got, there := get(x, row)
		want := isRow(key, value)
		wantBool(t, "Err", x.Err() == api.OK, want)
		wantBool(t, "Rows", ledger.Begin(s).Rows(), want)
		if want {
			good++
			wantBool(t, "there", there, true)
			if formOf(got) != value || keyOf(got) != key {
				t.Errorf("%x=%x is told as %+v", key, value, got)
			}
		}
		if e := s.Commit([]api.Change{{Key: []byte(key), Gone: true}}); e != api.OK {
			t.Fatal(e)
		}
	}
	if good < 2000 || good > 18000 {
		t.Errorf("%d are rows", good)
	}
}

// shaken tells bytes of which some are changed, or left out, or twice there.
func shaken(r *rand.Rand, value string) string {
	b := []byte(value)
	for range 1 + r.Intn(2) {
		at := r.Intn(len(b) + 1)
		switch r.Intn(6) {
		case 0:
			b = append(b[:at:at], b[min(at+1, len(b)):]...)
		case 1:
			b = append(b[:at:at], append([]byte{byte(r.Intn(3))}, b[at:]...)...)
		default:
			if at < len(b) {
				b[at] = []byte{0, 1, 2, b[at] + 1, b[at] - 1, byte(r.Intn(256))}[r.Intn(6)]
			}
		}
	}
	return string(b)
}
