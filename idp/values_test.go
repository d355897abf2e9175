package idp_test

import (
	"fmt"
	"maps"
	"math"
	"slices"
	"strings"
	"testing"

	"postern/api"
	"postern/disk"
	"postern/idp"
	"postern/ledger"
	"postern/radix"
	"postern/record"
	"postern/store"
)

const (
	sealed = api.EngineSealed
	held   = api.EngineHeld
	last   = math.MaxInt64
	first  = math.MinInt64
	room   = 1 << 25
)

func kinds() []int { return []int{sealed, held} }

// hand hands out draws, none of them twice, and notes how many were asked for; other answers instead of it, if there is one.
type hand struct {
	drawn uint64
	asked []int
	other func(n int) ([]api.ID, bool)
}

func (h *hand) Draws(n int) ([]api.ID, bool) {
	h.asked = append(h.asked, n)
	if h.other != nil {
		return h.other(n)
	}
	return h.draws(n), true
}

func (h *hand) draws(n int) []api.ID {
	var l []api.ID
	for range n {
		h.drawn++
		l = append(l, draw(h.drawn))
	}
	return l
}

// draw tells the n-th draw: sixteen equal bytes of the first 255.
func draw(n uint64) api.ID {
	var d api.ID
	for i := range d {
		d[i] = byte(n)
	}
	d[0] += byte(n >> 8)
	d[1] += byte(n >> 16)
	return d
}

func text(front string, d api.ID) string { return front + radix.Text64(d[:]) }

// config is the chapter's.
func config(kind int) api.Config {
	return api.Config{Issuer: "iss", Access: 10, Refresh: 100, Code: 5, Session: 50, Rounds: 2, Lock: api.Lock{Half: 10, Limit: math.Float64bits(3)}, Engine: kind}
}

func limits() api.Limits { return api.Limits{Pairs: 1 << 13, Weight: 1 << 23, Log: 1 << 20} }

// world is a disk and its provider.
type world struct {
	t *testing.T
	d *disk.Disk
	h *hand
	c api.Config
	p *idp.Provider
}

// opened tells a world that has just begun: it has drawn two draws.
func opened(t *testing.T, c api.Config) *world {
	t.Helper()
	d, e := disk.New(room)
	if e != api.OK {
		t.Fatalf("New: %d", e)
	}
	w := &world{t: t, d: d, h: &hand{}, c: c}
	w.open()
	return w
}

// open opens the world's disk anew.
func (w *world) open() {
	w.t.Helper()
	p, e := idp.Open(w.d, w.c, w.h)
	if e != api.OK {
		w.t.Fatalf("Open: %d", e)
	}
	w.p = p
}

// copied tells a world of its own that is as this one: the same files, the same draws to come.
func (w *world) copied() *world {
	w.t.Helper()
	d, e := disk.Load(w.d.Files(), w.d.Room())
	if e != api.OK {
		w.t.Fatalf("Load: %d", e)
	}
	v := &world{t: w.t, d: d, h: &hand{drawn: w.h.drawn}, c: w.c}
	v.open()
	return v
}

// ledger tells a transaction over a copy of what stands on the disk.
func (w *world) ledger() *ledger.Tx {
	w.t.Helper()
	d, e := disk.Load(w.d.Files(), w.d.Room())
	if e != api.OK {
		w.t.Fatalf("Load: %d", e)
	}
	s, e := store.Open(d, limits())
	if e != api.OK {
		w.t.Fatalf("store.Open: %d", e)
	}
	return ledger.Begin(s)
}

// spoil changes the rows past the provider, and opens the disk anew.
func (w *world) spoil(do func(x *ledger.Tx)) {
	w.t.Helper()
	w.rows(do)
	w.open()
}

func (w *world) rows(do func(x *ledger.Tx)) {
	w.t.Helper()
	s, e := store.Open(w.d, limits())
	if e != api.OK {
		w.t.Fatalf("store.Open: %d", e)
	}
	x := ledger.Begin(s)
	do(x)
	wantErrno(w.t, "spoil: Commit", x.Commit(), api.OK)
}

// begun tells a world with the user ann (pw) and the client shop (s): it has drawn four draws.
func begun(t *testing.T, kind int) *world {
	t.Helper()
	return peopled(t, config(kind))
}

func peopled(t *testing.T, c api.Config) *world {
	t.Helper()
	w := opened(t, c)
	w.addUser("ann")
	w.addClient(shop(), "s")
	return w
}

func shop() api.Client {
	return api.Client{ID: "shop", Aud: "api", Redirects: []string{"x"}, Scopes: []string{"a", "b"}}
}

// public tells a client without a secret.
func public(id string) api.Client {
	c := shop()
	c.ID, c.Public = id, true
	return c
}

func (w *world) addUser(name string) {
	w.t.Helper()
	wantErrno(w.t, "AddUser", w.p.AddUser(name, "pw"), api.OK)
}

func (w *world) addClient(c api.Client, secret string) {
	w.t.Helper()
	wantErrno(w.t, "AddClient", w.p.AddClient(c, secret), api.OK)
}

func (w *world) login(user string) string {
	w.t.Helper()
	s, e := w.p.Login(user, "pw")
	wantErrno(w.t, "Login", e, api.OK)
	return s
}

func (w *world) consent(session, client string, scopes ...string) {
	w.t.Helper()
	wantErrno(w.t, "Consent", w.p.Consent(session, client, scopes), api.OK)
}

// code tells a code of the session, to shop, of the scope a.
func (w *world) code(session string) string {
	w.t.Helper()
	return w.codeOf(session, "shop", "a")
}

func (w *world) codeOf(session, client string, scopes ...string) string {
	w.t.Helper()
	c, e := w.p.Authorize(session, client, "x", scopes, "")
	wantErrno(w.t, "Authorize", e, api.OK)
	return c
}

func (w *world) exchange(code string) api.Issued {
	w.t.Helper()
	return w.exchangeOf("shop", code)
}

func (w *world) exchangeOf(client, code string) api.Issued {
	w.t.Helper()
	i, e := w.p.Exchange(client, "s", code, "x", "")
	wantErrno(w.t, "Exchange", e, api.OK)
	return i
}

func (w *world) renew(refresh string) api.Issued {
	w.t.Helper()
	i, e := w.p.Renew("shop", "s", refresh, nil)
	wantErrno(w.t, "Renew", e, api.OK)
	return i
}

// session tells a session of ann that may let shop have the scopes a and b.
func (w *world) session() string {
	w.t.Helper()
	s := w.login("ann")
	w.consent(s, "shop", "a", "b")
	return s
}

// issued tells a session, a code of it, and its tokens.
func (w *world) issued() (session, code string, i api.Issued) {
	w.t.Helper()
	s := w.session()
	c := w.code(s)
	return s, c, w.exchange(c)
}

func (w *world) tick(n int64) {
	w.t.Helper()
	wantErrno(w.t, "Tick", w.p.Tick(n), api.OK)
}

func (w *world) state() api.State {
	w.t.Helper()
	s, e := w.p.State()
	wantErrno(w.t, "State", e, api.OK)
	return s
}

func (w *world) ring() api.Ring {
	w.t.Helper()
	r, e := w.p.Ring()
	wantErrno(w.t, "Ring", e, api.OK)
	return r
}

func (w *world) revoked() []api.Revoked {
	w.t.Helper()
	l, e := w.p.Revoked()
	wantErrno(w.t, "Revoked", e, api.OK)
	return l
}

func (w *world) held() []api.Held {
	w.t.Helper()
	l, e := w.p.Held()
	wantErrno(w.t, "Held", e, api.OK)
	return l
}

func (w *world) version() uint64 {
	w.t.Helper()
	v, e := w.p.Version()
	wantErrno(w.t, "Version", e, api.OK)
	return v
}

// all tells all that the provider tells of itself.
func (w *world) all() string {
	w.t.Helper()
	return lineOf(w.state()) + lineOf(w.ring()) + lineOf(w.revoked()) + lineOf(w.held())
}

// taken asks whether each of these is taken.
func (w *world) taken(what string, is bool, tokens ...string) {
	w.t.Helper()
	for n, token := range tokens {
		c, got, e := w.p.Find(token)
		if e != api.OK || got != is || (c.Iss != "") != is {
			w.t.Errorf("%s: token %d: %v, %v, %d", what, n, c, got, e)
		}
	}
}

// grant tells the grant of a number; the zero one, if there is none.
func (w *world) grant(n uint64) api.Grant {
	w.t.Helper()
	for _, g := range w.state().Grants {
		if g.N == n {
			return g
		}
	}
	return api.Grant{}
}

// The keys of pairs, by chapter 13's table.
const (
	configKey  = "c"
	clockKey   = "t"
	nextKey    = "n"
	shiftKey   = "s"
	ringKey    = "k"
	revokedKey = "r"
)

func rowKey(letter string, texts ...string) string {
	for _, s := range texts {
		letter += fmt.Sprintf("\x00\x00%c%c%s", rune(len(s)>>8), rune(len(s)), s)
	}
	return letter
}

func userKey(name string) string        { return rowKey("U", name) }
func clientKey(id string) string        { return rowKey("C", id) }
func consentKey(user, id string) string { return rowKey("O", user, id) }
func sessionKey(d uint64) string        { return "S" + string(idBytes(d)) }
func codeKey(d uint64) string           { return "D" + string(idBytes(d)) }
func refreshKey(d uint64) string        { return "R" + string(idBytes(d)) }
func heldKey(d uint64) string           { return "H" + string(idBytes(d)) }
func grantKey(n byte) string            { return "G\x00\x00\x00\x00\x00\x00\x00" + string([]byte{n}) }
func idBytes(d uint64) []byte           { id := draw(d); return id[:] }
func pairsOf(x *ledger.Tx) map[string]string {
	m := map[string]string{}
	for k, v := range x.Range(nil) {
		m[string(k)] = string(v)
	}
	return m
}

// differing tells the keys under which two rows of pairs are unlike.
func differing(p, q map[string]string) []string {
	m := map[string]bool{}
	for k, v := range p {
		if w, there := q[k]; !there || v != w {
			m[k] = true
		}
	}
	for k := range q {
		if _, there := p[k]; !there {
			m[k] = true
		}
	}
	return slices.Sorted(maps.Keys(m))
}

// doing asks that what is done changes just the pairs of these keys, by one batch, or by none if they are none.
func (w *world) doing(what string, do func(), keys ...string) {
	w.t.Helper()
	before, writes, version := pairsOf(w.ledger()), w.d.Writes(), w.version()
	do()
	slices.Sort(keys)
	if got := differing(before, pairsOf(w.ledger())); !slices.Equal(got, keys) {
		w.t.Errorf("%s: %q have changed, not %q", what, got, keys)
	}
	batches := 0
	if len(keys) > 0 {
		batches = 1
	}
	if n, v := w.d.Writes()-writes, w.version()-version; n != batches || v != uint64(batches) {
		w.t.Errorf("%s: %d writes, %d batches", what, n, v)
	}
}

// drawing asks for how many draws what is done asks, at once.
func (w *world) drawing(what string, n int, do func()) {
	w.t.Helper()
	w.h.asked = nil
	do()
	want := []int{n}
	if n == 0 {
		want = nil
	}
	if !slices.Equal(w.h.asked, want) {
		w.t.Errorf("%s: %d draws were asked for, not %d", what, w.h.asked, want)
	}
}

// refused asks that a call tells this error and nothing else, asks for no draws, and changes nothing.
func (w *world) refused(what string, want api.Errno, do func() (any, api.Errno)) {
	w.t.Helper()
	w.changing(what, want, do)
}

// changing is the same of a call that changes the pairs of these keys beside its error.
func (w *world) changing(what string, want api.Errno, do func() (any, api.Errno), keys ...string) {
	w.t.Helper()
	w.drawing(what, 0, func() {
		w.t.Helper()
		w.doing(what, func() {
			w.t.Helper()
			got, e := do()
			wantErrno(w.t, what, e, want)
			wantNothing(w.t, what, got)
		}, keys...)
	})
}

func lineOf(v any) string { return fmt.Sprintf("%+v", v) }

func wantErrno(t *testing.T, what string, got, want api.Errno) {
	t.Helper()
	if got != want {
		t.Errorf("%s: %d, not %d", what, got, want)
	}
}

// wantSame asks that two values are alike: nil and empty lists are one there.
func wantSame(t *testing.T, what string, got, want any) {
	t.Helper()
	if lineOf(got) != lineOf(want) {
		t.Errorf("%s: %s, not %s", what, lineOf(got), lineOf(want))
	}
}

// nothings are the lines of zero values.
func nothings() []string {
	return []string{"<nil>", "", "0", "{claims:{Iss: Sub: Client: Aud: Scopes:[] Grant:0 Iat:0 Exp:0 ID:[0 0 0 0 0 0 0 0 0 0 0 0 0 0 0 0]} taken:false}",
		"{moved:0 ended:false}", lineOf(api.Issued{}), lineOf(api.State{}), lineOf(api.Ring{}), "[]"}
}

func wantNothing(t *testing.T, what string, got any) {
	t.Helper()
	if !slices.Contains(nothings(), lineOf(got)) {
		t.Errorf("%s: beside an error: %s", what, lineOf(got))
	}
}

// found and step gather what a call tells.
type found struct {
	claims api.Claims
	taken  bool
}

type step struct {
	moved int
	ended bool
}

// None of these tells anything but an error.
func only(e api.Errno) (any, api.Errno) { return nil, e }

// fake tells a text of this front whose draw was never drawn.
func fake(front string) string { return text(front, draw(1<<16)) }

// long tells a text of n letters.
func long(n int) string { return strings.Repeat("n", n) }

// numbered gives the disk's snapshot another number: the eight bytes of its first frame's body.
func (w *world) numbered(n uint64) {
	w.t.Helper()
	files := w.d.Files()
	if len(files) != 1 || files[0].Name != "snap" {
		w.t.Fatalf("%d files", len(files))
	}
	b := files[0].Bytes
	body, size, e := record.Unframe(b)
	wantErrno(w.t, "Unframe", e, api.OK)
	var r record.Writer
	r.Num(n, 8)
	r.Num(uint64(body[11]), 4)
	form, _ := r.Done()
	frame, e := record.Frame(form)
	wantErrno(w.t, "Frame", e, api.OK)
	d, e := disk.Load([]api.File{{Name: "snap", Bytes: append(frame, b[size:]...)}}, room)
	wantErrno(w.t, "Load", e, api.OK)
	w.d = d
	w.open()
}
