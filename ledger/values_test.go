package ledger_test

import (
	"fmt"
	"iter"
	"reflect"
	"strings"
	"testing"

	"postern/api"
	"postern/disk"
	"postern/ledger"
	"postern/store"
)

// wide are limits that no small test meets.
var wide = api.Limits{Pairs: 1 << 16, Weight: 1 << 26, Log: 1 << 26}

// The kinds whose rows are no type of their own.
type (
	clock   int64
	next    uint64
	revoked []api.Revoked
)

// started tells a disk, and a store over it that holds these rows, as the model lays them.
func started(t *testing.T, limits api.Limits, rows ...any) (*disk.Disk, *store.Store) {
	t.Helper()
	d, e := disk.New(1 << 27)
	if e != api.OK {
		t.Fatalf("New: %d", e)
	}
	s, e := store.Open(d, limits)
	if e != api.OK {
		t.Fatalf("Open: %d", e)
	}
	for _, row := range rows {
		lay(t, s, keyOf(row), formOf(row))
	}
	return d, s
}

// begun tells a transaction over a store that holds these rows.
func begun(t *testing.T, rows ...any) *ledger.Tx {
	t.Helper()
	_, s := started(t, wide, rows...)
	return ledger.Begin(s)
}

// lay puts a pair into a store, past all ledgers.
func lay(t *testing.T, s *store.Store, key, value string) {
	t.Helper()
	if e := s.Commit([]api.Change{{Key: []byte(key), Value: []byte(value)}}); e != api.OK {
		t.Fatalf("%.50q: %d", key, e)
	}
}

// id tells an ID of sixteen bytes that rise.
func id(first byte) api.ID {
	var d api.ID
	for i := range d {
		d[i] = first + byte(i)
	}
	return d
}

// block tells thirty-two bytes that rise.
func block(first byte) [32]byte {
	var b [32]byte
	for i := range b {
		b[i] = first + byte(i)
	}
	return b
}

// samples tells a row of each kind; no two fields of one are alike.
func samples() []any {
	return []any{
		api.Config{Issuer: "iss", Access: 1, Refresh: -2, Code: 1 << 40, Session: 4, Rounds: 5, Lock: api.Lock{Half: 6, Limit: 1<<63 + 7}, Engine: 200},
		clock(1<<62 + 3),
		next(1<<63 + 9),
		api.Shift{On: true, From: 255, To: 2, Cursor: 1<<63 + 4, Epoch: 5},
		api.Ring{Keys: []api.Key{{Kid: 1<<63 + 1, Secret: block(1), Until: -9}, {Kid: 2, Secret: block(60)}, {Kid: 3, Until: 7}}, Next: 1<<63 + 12},
		revoked{{Whole: true, Grant: 1<<63 + 5, Exp: 70}, {Grant: 6, ID: id(9), Exp: -80}},
		api.User{Name: "ann", Salt: id(1), Digest: block(20), Meter: api.Meter{Score: 1<<63 + 2, At: -3}},
		api.Client{ID: "shop", Aud: "api", Public: true, Redirects: []string{"x", "", "yy"}, Scopes: []string{"a", "bc"}, Salt: id(5), Digest: block(40)},
		api.Consent{User: "ann", Client: "shop", Scopes: []string{"c", "", "d"}},
		api.Session{ID: id(7), User: "bob", Exp: 1 << 50},
		api.Code{ID: id(8), User: "eve", Client: "club", Redirect: "there", Scopes: []string{"e"}, Challenge: "why", Exp: 33, Grant: 1<<63 + 44},
		api.Grant{N: 1<<63 + 7, User: "ann", Client: "shop", Scopes: []string{"f", "g"}, Engine: 254, Live: true, Current: id(30), Exp: 11, Last: 12, Sealed: -13, Issues: 14},
		api.Refresh{ID: id(9), Grant: 1<<63 + 3, Exp: 4},
		api.Held{Claims: api.Claims{Iss: "iss", Sub: "ann", Client: "shop", Aud: "api", Scopes: []string{"h"}, Grant: 1<<63 + 21, Iat: -22, Exp: 23, ID: id(50)}, Kid: 1<<63 + 24},
	}
}

// zeros tells the zero row of each kind.
func zeros() []any {
	var l []any
	for _, row := range samples() {
		l = append(l, zeroOf(row))
	}
	return l
}

func zeroOf(row any) any { return reflect.Zero(reflect.TypeOf(row)).Interface() }

// put sets or puts a row.
func put(x *ledger.Tx, row any) {
	switch r := row.(type) {
	case api.Config:
		x.SetConfig(r)
	case clock:
		x.SetClock(int64(r))
	case next:
		x.SetNext(uint64(r))
	case api.Shift:
		x.SetShift(r)
	case api.Ring:
		x.SetRing(r)
	case revoked:
		x.SetRevoked(r)
	case api.User:
		x.PutUser(r)
	case api.Client:
		x.PutClient(r)
	case api.Consent:
		x.PutConsent(r)
	case api.Session:
		x.PutSession(r)
	case api.Code:
		x.PutCode(r)
	case api.Grant:
		x.PutGrant(r)
	case api.Refresh:
		x.PutRefresh(r)
	case api.Held:
		x.PutHeld(r)
	default:
		panic("no row")
	}
}

// get tells the row that has the key of this one. Of those that tell no bool it is true.
func get(x *ledger.Tx, row any) (any, bool) {
	var got any
	there := true
	switch r := row.(type) {
	case api.Config:
		got, there = x.Config()
	case clock:
		got = clock(x.Clock())
	case next:
		got = next(x.Next())
	case api.Shift:
		got = x.Shift()
	case api.Ring:
		got = x.Ring()
	case revoked:
		got = revoked(x.Revoked())
	case api.User:
		got, there = x.User(r.Name)
	case api.Client:
		got, there = x.Client(r.ID)
	case api.Consent:
		got, there = x.Consent(r.User, r.Client)
	case api.Session:
		got, there = x.Session(r.ID)
	case api.Code:
		got, there = x.Code(r.ID)
	case api.Grant:
		got, there = x.Grant(r.N)
	case api.Refresh:
		got, there = x.Refresh(r.ID)
	case api.Held:
		got, there = x.Held(r.Claims.ID)
	default:
		panic("no row")
	}
	return got, there
}

// alone tells whether a row is the only one of its kind: nothing drops it, or lists it.
func alone(row any) bool { return len(keyOf(row)) == 1 }

// drop drops what has the key of a row.
func drop(x *ledger.Tx, row any) bool {
	switch r := row.(type) {
	case api.User:
		return x.DropUser(r.Name)
	case api.Client:
		return x.DropClient(r.ID)
	case api.Consent:
		return x.DropConsent(r.User, r.Client)
	case api.Session:
		return x.DropSession(r.ID)
	case api.Code:
		return x.DropCode(r.ID)
	case api.Grant:
		return x.DropGrant(r.N)
	case api.Refresh:
		return x.DropRefresh(r.ID)
	case api.Held:
		return x.DropHeld(r.Claims.ID)
	}
	panic("nothing drops it")
}

// list tells all rows of the kind of this one.
func list(x *ledger.Tx, row any) []any {
	switch row.(type) {
	case api.User:
		return anyOf(x.Users())
	case api.Client:
		return anyOf(x.Clients())
	case api.Consent:
		return anyOf(x.Consents())
	case api.Session:
		return anyOf(x.Sessions())
	case api.Code:
		return anyOf(x.Codes())
	case api.Grant:
		return anyOf(x.Grants())
	case api.Refresh:
		return anyOf(x.Refreshes())
	case api.Held:
		return anyOf(x.Helds())
	}
	panic("nothing lists it")
}

func anyOf[R any](l []R) []any {
	var out []any
	for _, r := range l {
		out = append(out, r)
	}
	return out
}

// lineOf tells values in one line: nil and empty lists are one there.
func lineOf(l ...any) string { return fmt.Sprintf("%+v", l) }

// pairsOf tells pairs in one line.
func pairsOf(seq iter.Seq2[[]byte, []byte]) string {
	var l []string
	for key, value := range seq {
		l = append(l, fmt.Sprintf("%x=%x", key, value))
	}
	return strings.Join(l, " ")
}

func storeOf(s *store.Store) string { return pairsOf(s.Range(nil, nil)) }

func wantErrno(t *testing.T, what string, got, want api.Errno) {
	t.Helper()
	if got != want {
		t.Errorf("%.100s: %d, not %d", what, got, want)
	}
}

func wantBool(t *testing.T, what string, got, want bool) {
	t.Helper()
	if got != want {
		t.Errorf("%.100s: %v", what, got)
	}
}

func wantInt(t *testing.T, what string, got, want int) {
	t.Helper()
	if got != want {
		t.Errorf("%.100s: %d, not %d", what, got, want)
	}
}

func wantSame(t *testing.T, what string, got, want any) {
	t.Helper()
	if lineOf(got) != lineOf(want) {
		t.Errorf("%.100s: %.600q, not %.600q", what, lineOf(got), lineOf(want))
	}
}

// wantRow asks that a row is there, and is just this one.
func wantRow(t *testing.T, what string, x *ledger.Tx, row any) {
	t.Helper()
	got, there := get(x, row)
	wantSame(t, what, got, row)
	wantBool(t, what+": there", there, true)
}

// wantNone asks that there is no row with the key of this one.
func wantNone(t *testing.T, what string, x *ledger.Tx, row any) {
	t.Helper()
	got, there := get(x, row)
	wantSame(t, what, got, zeroOf(row))
	if _, is := row.(api.Config); is || !alone(row) {
		wantBool(t, what+": there", there, false)
	}
}

// wantNothing asks that all calls but Err and Commit tell zero values and change nothing, with the error that there is.
func wantNothing(t *testing.T, what string, x *ledger.Tx, err api.Errno) {
	t.Helper()
	wantErrno(t, what+": Err", x.Err(), err)
	for range 2 {
		for _, row := range append(samples(), zeros()...) {
			put(x, row)
			wantNone(t, what, x, row)
			if !alone(row) {
				wantBool(t, what+": dropped", drop(x, row), false)
				wantSame(t, what, list(x, row), []any(nil))
			}
		}
		put(x, api.User{Name: strings.Repeat("n", 257)})
		wantInt(t, what+": Expire", x.Expire(), 0)
		wantSame(t, what+": State", x.State(), api.State{})
		wantBool(t, what+": Rows", x.Rows(), false)
		wantErrno(t, what+": Err", x.Err(), err)
	}
}

// wantOver asks that a transaction is over.
func wantOver(t *testing.T, what string, x *ledger.Tx) {
	t.Helper()
	wantNothing(t, what, x, api.ErrTableEnd)
	wantErrno(t, what+": Commit", x.Commit(), api.ErrTableEnd)
	x.Drop()
	wantNothing(t, what, x, api.ErrTableEnd)
}

// wantFailed asks that a transaction has met an error, does nothing any more, and ends with it.
func wantFailed(t *testing.T, what string, x *ledger.Tx, err api.Errno) {
	t.Helper()
	wantNothing(t, what, x, err)
	wantErrno(t, what+": Commit", x.Commit(), err)
	wantOver(t, what+", over", x)
}
