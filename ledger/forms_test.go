package ledger_test

import (
	"encoding/hex"
	"math"
	"reflect"
	"strings"
	"testing"

	"postern/api"
	"postern/ledger"
)

// edges tells rows of each kind with the ends of each field's range.
func edges() []any {
	long, full := strings.Repeat("\xff", 256), make([]string, 16)
	for i := range full {
		full[i] = strings.Repeat("s", 256-i)
	}
	top, low := int64(math.MaxInt64), int64(math.MinInt64)
	ring := api.Ring{Keys: make([]api.Key, 255), Next: math.MaxUint64}
	for i := range ring.Keys {
		ring.Keys[i] = api.Key{Kid: uint64(i), Secret: block(byte(i)), Until: low + int64(i)}
	}
	entries := make(revoked, 7943) // of 33 bytes each, two for their number: one more is beyond MaxValue
	for i := range entries {
		entries[i] = api.Revoked{Whole: i%3 == 0, Grant: uint64(i), ID: id(byte(i)), Exp: top - int64(i)}
	}
	key := strings.Repeat("k", 251)
	return append(zeros(),
		api.Config{Issuer: long, Access: top, Refresh: low, Code: top, Session: low, Rounds: math.MaxInt, Lock: api.Lock{Half: low, Limit: math.MaxUint64}, Engine: 255},
		api.Config{Rounds: math.MinInt},
		clock(top), clock(low), clock(-1), next(math.MaxUint64),
		api.Shift{From: 255, To: 255, Cursor: math.MaxUint64, Epoch: math.MaxUint64}, api.Shift{On: true},
		ring, api.Ring{Keys: ring.Keys[:1]}, entries, entries[:1], entries[1:2],
		api.User{Name: key, Meter: api.Meter{Score: math.MaxUint64, At: low}},
		api.User{Name: "\x00\"\\\x7f\xff"},
		api.Client{ID: key, Aud: long, Redirects: full[:8], Scopes: full},
		api.Consent{User: strings.Repeat("u", 247), Scopes: full},
		api.Consent{Client: strings.Repeat("c", 247)},
		api.Consent{User: strings.Repeat("u", 123), Client: strings.Repeat("c", 124)},
		api.Session{User: long, Exp: low},
		api.Code{User: long, Client: long, Redirect: long, Scopes: full, Challenge: long, Exp: top, Grant: math.MaxUint64},
		api.Grant{N: math.MaxUint64, User: long, Client: long, Scopes: full, Engine: 255, Exp: top, Last: low, Sealed: top, Issues: math.MaxInt},
		api.Grant{Issues: math.MinInt},
		api.Refresh{Grant: math.MaxUint64, Exp: low},
		api.Held{Claims: api.Claims{Iss: long, Sub: long, Client: long, Aud: long, Scopes: full, Grant: math.MaxUint64, Iat: low, Exp: top}, Kid: math.MaxUint64},
	)
}

// TestP13_2Form: a row that is put is the pair of the chapter's table, and nothing else; each field in its place, to the ends of its range.
func TestP13_2Form(t *testing.T) {
	for _, row := range append(samples(), edges()...) {
		what := reflect.TypeOf(row).Name()
		_, s := started(t, wide)
		x := ledger.Begin(s)
		put(x, row)
		wantErrno(t, what, x.Err(), api.OK)
		wantRow(t, what+", own", x, row)
		wantErrno(t, what, x.Commit(), api.OK)
		_, want := started(t, wide, row)
		if storeOf(s) != storeOf(want) {
			t.Errorf("%s: %.500s, not %.500s", what, storeOf(s), storeOf(want))
		}
	}
}

// TestP13_2Read: a pair of the chapter's table is told as its row.
func TestP13_2Read(t *testing.T) {
	for _, row := range append(samples(), edges()...) {
		what := reflect.TypeOf(row).Name()
		x := begun(t, row)
		wantRow(t, what, x, row)
		wantBool(t, what+": Rows", x.Rows(), true)
		if !alone(row) {
			wantSame(t, what+", list", list(x, row), []any{row})
		}
		wantErrno(t, what, x.Err(), api.OK)
	}
}

// TestP13_2Hand: pairs that were laid by hand, byte by byte.
func TestP13_2Hand(t *testing.T) {
	zero := strings.Repeat("00", 16)
	for _, c := range []struct {
		row        any
		key, value string
	}{
		{api.Session{User: "ann", Exp: 9}, "53" + zero, zero + "00000003616e6e" + "0000000000000009"},
		{clock(-2), "74", "fffffffffffffffe"},
		{next(258), "6e", "0000000000000102"},
		{api.Shift{On: true, From: 1, To: 2, Cursor: 3, Epoch: 4}, "73", "01" + "01" + "02" + "0000000000000003" + "0000000000000004"},
		{api.Ring{Next: 3, Keys: []api.Key{{Kid: 2, Until: 5}}}, "6b", "0000000000000003" + "01" + "0000000000000002" + "00000020" + zero + zero + "0000000000000005"},
		{revoked{{Whole: true, Grant: 1, Exp: 2}}, "72", "0001" + "01" + "0000000000000001" + zero + "0000000000000002"},
		{api.Refresh{Grant: 1, Exp: 2}, "52" + zero, zero + "0000000000000001" + "0000000000000002"},
		{api.Consent{User: "a", Client: "bc", Scopes: []string{"d"}}, "4f" + "0000000161" + "000000026263", "0000000161" + "000000026263" + "01" + "0000000164"},
		{api.User{Name: "a", Meter: api.Meter{Score: 1, At: 2}}, "55" + "0000000161", "0000000161" + zero + "00000020" + zero + zero + "0000000000000001" + "0000000000000002"},
		{api.Client{ID: "a", Aud: "b", Public: true, Redirects: []string{"c", "d"}}, "43" + "0000000161", "0000000161" + "0000000162" + "01" + "02" + "0000000163" + "0000000164" + "00" + zero + "00000020" + zero + zero},
		{api.Code{User: "a", Client: "b", Redirect: "c", Challenge: "d", Exp: 1, Grant: 2}, "44" + zero, zero + "0000000161" + "0000000162" + "0000000163" + "00" + "0000000164" + "0000000000000001" + "0000000000000002"},
		{api.Grant{N: 7, User: "a", Client: "b", Engine: 2, Live: true, Exp: 1, Last: 2, Sealed: 3, Issues: 4}, "47" + "0000000000000007",
			"0000000000000007" + "0000000161" + "0000000162" + "00" + "02" + "01" + zero + "0000000000000001" + "0000000000000002" + "0000000000000003" + "0000000000000004"},
		{api.Held{Claims: api.Claims{Iss: "a", Sub: "b", Client: "c", Aud: "d", Grant: 1, Iat: 2, Exp: 3}, Kid: 4}, "48" + zero,
			"0000000161" + "0000000162" + "0000000163" + "0000000164" + "00" + "0000000000000001" + "0000000000000002" + "0000000000000003" + zero + "0000000000000004"},
		{api.Config{Issuer: "a", Access: 1, Refresh: 2, Code: 3, Session: 4, Rounds: 5, Lock: api.Lock{Half: 6, Limit: 7}, Engine: 1}, "63",
			"0000000161" + "0000000000000001" + "0000000000000002" + "0000000000000003" + "0000000000000004" + "0000000000000005" + "0000000000000006" + "0000000000000007" + "01"},
	} {
		if hex.EncodeToString([]byte(keyOf(c.row))) != c.key || hex.EncodeToString([]byte(formOf(c.row))) != c.value {
			t.Errorf("the model's %T: %x=%x", c.row, keyOf(c.row), formOf(c.row))
		}
		_, s := started(t, wide)
		x := ledger.Begin(s)
		put(x, c.row)
		wantErrno(t, c.key, x.Commit(), api.OK)
		if got := storeOf(s); got != c.key+"="+c.value {
			t.Errorf("%T: %s", c.row, got)
		}
	}
}

// TestP13_2Empty: of an empty store all is zero, and each list empty.
func TestP13_2Empty(t *testing.T) {
	x := begun(t)
	for _, row := range append(samples(), zeros()...) {
		wantNone(t, reflect.TypeOf(row).Name(), x, row)
		if !alone(row) {
			wantInt(t, reflect.TypeOf(row).Name(), len(list(x, row)), 0)
		}
	}
	wantSame(t, "State", x.State(), api.State{})
	wantInt(t, "Expire", x.Expire(), 0)
	wantErrno(t, "Err", x.Err(), api.OK)
	wantErrno(t, "Commit", x.Commit(), api.OK)
}

// TestP13_2Kinds: no kind's rows are told by another kind's calls, though their keys be alike but for the letter.
func TestP13_2Kinds(t *testing.T) {
	for i, row := range zeros() {
		x := begun(t, row)
		for j, other := range zeros() {
			if _, config := other.(api.Config); i == j || alone(other) && !config {
				continue
			}
			wantNone(t, "another kind", x, other)
			if !alone(other) {
				wantInt(t, "another kind", len(list(x, other)), 0)
			}
		}
		wantErrno(t, "Err", x.Err(), api.OK)
	}
}

// TestP13_2Lists: rows of a kind by their keys in the store's order: of texts the shorter first, of numbers and IDs the smaller; some from the store, others the transaction's own.
func TestP13_2Lists(t *testing.T) {
	for _, l := range [][]any{
		{api.User{Name: ""}, api.User{Name: "b"}, api.User{Name: "\xff"}, api.User{Name: "aa"}, api.User{Name: "ab"}, api.User{Name: strings.Repeat("a", 251)}},
		{api.Client{ID: ""}, api.Client{ID: "z"}, api.Client{ID: "aa"}, api.Client{ID: "ab"}, api.Client{ID: "aaa"}},
		{api.Consent{}, api.Consent{Client: "z"}, api.Consent{Client: "aa"}, api.Consent{User: "a"}, api.Consent{User: "b", Client: "b"}, api.Consent{User: "b", Client: "c"}, api.Consent{User: "aa"}},
		{api.Session{}, api.Session{ID: api.ID{15: 1}}, api.Session{ID: api.ID{0: 1}}, api.Session{ID: api.ID{0: 255}}},
		{api.Code{}, api.Code{ID: api.ID{15: 1}}, api.Code{ID: api.ID{0: 1}}, api.Code{ID: api.ID{0: 255}}},
		{api.Grant{}, api.Grant{N: 2}, api.Grant{N: 10}, api.Grant{N: 255}, api.Grant{N: 256}, api.Grant{N: 1 << 63}},
		{api.Refresh{}, api.Refresh{ID: api.ID{15: 1}}, api.Refresh{ID: api.ID{0: 1}}, api.Refresh{ID: api.ID{0: 255}}},
		{heldOf(api.ID{}), heldOf(api.ID{15: 1}), heldOf(api.ID{0: 1}), heldOf(api.ID{0: 255})},
	} {
		for own := range len(l) {
			var stored []any
			for i := range l {
				if i%(own+1) != 0 {
					stored = append(stored, l[i])
				}
			}
			x := begun(t, append(samples(), stored...)...)
			for i := range l {
				if i%(own+1) == 0 {
					put(x, l[len(l)-1-i])
					put(x, l[i])
				}
			}
			if !alone(l[0]) {
				drop(x, sampleOf(l[0]))
			}
			for i := range l {
				put(x, l[i])
			}
			wantSame(t, "list", list(x, l[0]), l)
			drop(x, l[1])
			wantSame(t, "list without one", list(x, l[0]), append(append([]any{}, l[0]), l[2:]...))
			wantErrno(t, "Err", x.Err(), api.OK)
		}
	}
}

func heldOf(d api.ID) api.Held { return api.Held{Claims: api.Claims{ID: d}} }

// sampleOf tells the sample of a row's kind.
func sampleOf(row any) any {
	for _, r := range samples() {
		if reflect.TypeOf(r) == reflect.TypeOf(row) {
			return r
		}
	}
	panic("no row")
}

// TestP13_2Seen: what is told is the store's at that time, and the transaction's own changes above it.
func TestP13_2Seen(t *testing.T) {
	_, s := started(t, wide)
	x, y := ledger.Begin(s), ledger.Begin(s)
	for _, row := range samples() {
		put(x, row)
		wantRow(t, "own", x, row)
		wantNone(t, "another one's", y, row)
	}
	wantErrno(t, "Commit", x.Commit(), api.OK)
	for _, row := range samples() {
		wantRow(t, "committed", y, row)
		put(y, zeroOf(row))
		if !alone(row) {
			wantBool(t, "Drop", drop(y, row), true)
			wantNone(t, "dropped", y, row)
		}
		wantRow(t, "own", y, zeroOf(row))
	}
	wantErrno(t, "Err", y.Err(), api.OK)
	y.Drop()
	z := ledger.Begin(s)
	for _, row := range samples() {
		wantRow(t, "still", z, row)
	}
}
