package engine_test

import (
	"math/rand"
	"slices"
	"strings"
	"testing"

	"postern/api"
	"postern/engine"
	"postern/ledger"
	"postern/radix"
	"postern/revoke"
	"postern/ring"
	"postern/store"
)

// token is what the model knows of a token: nothing of how it was made.
type token struct {
	c    api.Claims
	kid  uint64
	gone bool
}

// world is a ledger with tokens, and a model of which are taken. Worlds of one script that are flipped let the other engine do what this one does.
type world struct {
	t       *testing.T
	s       *store.Store
	x       *ledger.Tx
	flipped bool
	clock   int64
	until   map[uint64]int64 // of the keys that are in the ring
	killed  map[uint64]bool
	tokens  []token
	kinds   []int // by which engine each was minted
	texts   []string
}

const grants = 4

func newWorld(t *testing.T, flipped bool) *world {
	t.Helper()
	_, s := started(t)
	w := &world{t: t, s: s, x: ledger.Begin(s), flipped: flipped, until: map[uint64]int64{1: 0}, killed: map[uint64]bool{}}
	w.x.SetRing(keys(2, key(1, 0)))
	for n := range uint64(grants) {
		w.x.PutGrant(granted(n+1, 0))
	}
	return w
}

func (w *world) engine(kind int) engine.Engine {
	if w.flipped {
		kind = other(kind)
	}
	return of(w.t, kind)
}

func (w *world) current() uint64 {
	for kid, until := range w.until {
		if until == 0 {
			return kid
		}
	}
	w.t.Fatal("no current key")
	return 0
}

// isThere tells whether the model's ring has a key at its clock.
func (w *world) isThere(kid uint64) bool {
	until, there := w.until[kid]
	return there && (until == 0 || until > w.clock)
}

func (w *world) taken(k token) bool {
	return !k.gone && k.c.Exp > w.clock && w.isThere(k.kid)
}

// goes marks the tokens that are not taken from now on.
func (w *world) goes(which func(at int, k token) bool) {
	for at, k := range w.tokens {
		if which(at, k) {
			w.tokens[at].gone = true
		}
	}
}

// step is one of a script: what is done, and numbers that say of what.
type step struct {
	what, kind int
	n, m       int
}

// script draws steps.
func script(r *rand.Rand, size int) []step {
	var l []step
	for range size {
		l = append(l, step{what: r.Intn(16), kind: kinds()[r.Intn(2)], n: r.Intn(1 << 16), m: r.Intn(1 << 16)})
	}
	return l
}

// do carries a step out, in the ledger and in the model, and tells what it answers.
func (w *world) do(s step) any {
	e := w.engine(s.kind)
	grant := 1 + uint64(s.n%grants)
	switch s.what {
	default:
		return w.mint(e, grant, 1+int64(s.m%20))
	case 0, 1:
		w.drop(s)
	case 2:
		if s.m%4 == 0 {
			w.kill(e, grant)
		}
	case 3:
		return w.rotate(int64(s.n % 20))
	case 4:
		return w.distrust(uint64(s.n%12), s.m%2 == 0)
	case 5:
		w.forget(e, uint64(s.n%20))
	case 6, 7:
		w.clock += int64(s.n % 4)
		w.x.SetClock(w.clock)
	case 8:
		w.x.Expire()
	case 9:
		return w.commit()
	}
	return nil
}

func (w *world) mint(e engine.Engine, grant uint64, life int64) any {
	if w.killed[grant] {
		return nil
	}
	n := len(w.tokens)
	c := said(grant, api.ID{0: byte(n), 1: byte(n >> 8), 15: 3}, w.clock+life)
	c.Iat = w.clock
	text, bad := e.Mint(w.x, c)
	w.tokens = append(w.tokens, token{c: c, kid: w.current()})
	w.kinds = append(w.kinds, e.Kind())
	w.texts = append(w.texts, text)
	return bad
}

// drop drops a token by an engine: by another one than its own nothing becomes of it.
func (w *world) drop(s step) {
	if len(w.tokens) == 0 {
		return
	}
	at := s.n % len(w.tokens)
	e := of(w.t, w.kinds[at])
	if s.m%3 == 0 {
		of(w.t, other(w.kinds[at])).Drop(w.x, w.tokens[at].c)
		return
	}
	e.Drop(w.x, w.tokens[at].c)
	w.goes(func(n int, _ token) bool { return n == at })
}

func (w *world) kill(e engine.Engine, grant uint64) {
	g, there := w.x.Grant(grant)
	if !there {
		w.t.Fatalf("grant %d has gone", grant)
	}
	e.Kill(w.x, g)
	w.killed[grant] = true
	w.goes(func(at int, k token) bool { return k.c.Grant == grant && w.kinds[at] == e.Kind() })
}

func (w *world) rotate(life int64) any {
	until := w.clock + life
	r, bad := ring.Rotate(w.x.Ring(), secret(w.x.Ring().Next), until)
	if bad != api.OK {
		return bad
	}
	w.until[w.current()] = until
	w.until[w.x.Ring().Next] = 0
	w.x.SetRing(r)
	return bad
}

// distrust takes a key out of the ring; the rows that it has minted may go, or stand there for nothing.
func (w *world) distrust(kid uint64, forget bool) any {
	next := w.x.Ring().Next
	r, bad := ring.Distrust(w.x.Ring(), kid, secret(next))
	if bad != api.OK {
		return bad
	}
	if kid == w.current() {
		w.until[next] = 0
	}
	delete(w.until, kid)
	w.x.SetRing(r)
	if forget {
		of(w.t, api.EngineSealed).Forget(w.x, kid)
		of(w.t, api.EngineHeld).Forget(w.x, kid)
	}
	return bad
}

// forget forgets a kid that is not in the ring: of the others nothing is said.
func (w *world) forget(e engine.Engine, kid uint64) {
	if !w.isThere(kid) {
		e.Forget(w.x, kid)
	}
}

func (w *world) commit() any {
	bad := w.x.Commit()
	w.x = ledger.Begin(w.s)
	return bad
}

// holds asks that each token is taken just if the model says so, and that the list is one.
func (w *world) holds() {
	w.t.Helper()
	for at, k := range w.tokens {
		c, there := engine.Find(w.x, w.texts[at])
		if there != w.taken(k) {
			w.t.Fatalf("token %d (%v) at %d: taken is %v", at, k, w.clock, there)
		}
		if !there {
			k.c = api.Claims{}
		}
		if !slices.Equal(c.Scopes, k.c.Scopes) || c.ID != k.c.ID || c.Grant != k.c.Grant || c.Exp != k.c.Exp || c.Iat != k.c.Iat || c.Sub != k.c.Sub {
			w.t.Fatalf("token %d is told as %v, not %v", at, c, k.c)
		}
	}
	if e := revoke.Check(w.x.Revoked()); e != api.OK {
		w.t.Fatalf("%v is no list", w.x.Revoked())
	}
	if e := w.x.Err(); e != api.OK {
		w.t.Fatalf("Err: %d", e)
	}
}

// TestP15_8Model: walks of all that may be done, held against the model behind each step.
func TestP15_8Model(t *testing.T) {
	r := rand.New(rand.NewSource(158))
	lost, found := 0, 0
	for range 60 {
		w := newWorld(t, false)
		for _, s := range script(r, 80) {
			w.do(s)
			w.holds()
		}
		for _, k := range w.tokens {
			if w.taken(k) {
				found++
			} else {
				lost++
			}
		}
	}
	if found < 100 || lost < 300 {
		t.Errorf("at the ends %d are taken and %d are not", found, lost)
	}
}

// remains tells all that does not hang on which engine minted: the pairs but held tokens, the list and the grants' Sealed.
func remains(x *ledger.Tx) string {
	var l []any
	for k, v := range pairsOf(x) {
		if !strings.ContainsAny(k[:1], "HrG") {
			l = append(l, k+"="+v)
		}
	}
	slices.SortFunc(l, func(a, b any) int { return strings.Compare(a.(string), b.(string)) })
	for _, g := range x.Grants() {
		g.Sealed = 0
		l = append(l, g)
	}
	return lineOf(l)
}

// TestP15_8Twins: where the engines have changed places all is alike but the tokens' texts, the held rows, the list and Sealed (W2).
func TestP15_8Twins(t *testing.T) {
	r := rand.New(rand.NewSource(2))
	for range 40 {
		w, v := newWorld(t, false), newWorld(t, true)
		for _, s := range script(r, 60) {
			wantSame(t, "a step's answer", v.do(s), w.do(s))
			v.holds()
			for at := range w.tokens {
				if w.taken(w.tokens[at]) != v.taken(v.tokens[at]) || w.kinds[at] != other(v.kinds[at]) {
					t.Fatalf("token %d is another one's twin", at)
				}
			}
			wantSame(t, "what remains", remains(v.x), remains(w.x))
		}
		if t.Failed() {
			return
		}
	}
}

// TestP15_8Other: a Drop, a Kill or a Forget by the other engine changes nothing of a token.
func TestP15_8Other(t *testing.T) {
	for _, kind := range kinds() {
		x := begun(t)
		text := mint(t, x, kind, example())
		e := of(t, other(kind))
		g, _ := x.Grant(one)
		e.Drop(x, example())
		wantTaken(t, "Drop", x, text, example())
		e.Kill(x, g)
		wantTaken(t, "Kill", x, text, example())
		g.Sealed = last
		e.Kill(x, g)
		if kind == api.EngineHeld {
			wantList(t, "Kill", x, whole(one, last))
		}
		wantTaken(t, "Kill", x, text, example())
		e.Forget(x, 1)
		wantTaken(t, "Forget", x, text, example())
	}
}

// TestP15_9Canonical: what is taken is a sealed token by a key of the ring, or the text of an ID under which a row stands.
func TestP15_9Canonical(t *testing.T) {
	r := rand.New(rand.NewSource(159))
	for range 20 {
		w := newWorld(t, false)
		for _, s := range script(r, 60) {
			w.do(s)
			for at, text := range w.texts {
				c, there := engine.Find(w.x, text)
				if !there {
					continue
				}
				if kind := engine.Form(text); kind != w.kinds[at] {
					t.Fatalf("%q: the form is %d", text, kind)
				}
				if w.kinds[at] == api.EngineHeld {
					row, stands := w.x.Held(c.ID)
					wantSame(t, "the text", text, "at_"+radix.Text64(c.ID[:]))
					wantSame(t, "the row", row, api.Held{Claims: c, Kid: w.tokens[at].kid})
					wantSame(t, "it stands", stands, true)
				} else {
					k, is := ring.Find(w.x.Ring(), w.tokens[at].kid)
					wantSame(t, "the text", text, sealedBy(t, k, c))
					wantSame(t, "its key is there", is, true)
				}
			}
		}
	}
}

// TestP15_9Near: no text near a token is taken: each byte as another one, each left out, and one more.
func TestP15_9Near(t *testing.T) {
	for _, kind := range kinds() {
		x := begun(t)
		text := mint(t, x, kind, said(one, id(1), 20))
		for at := range text {
			for _, b := range []byte("AQgw_-.=a1 \x00\xff") {
				if near := text[:at] + string([]byte{b}) + text[at+1:]; near != text {
					lost(t, x, near)
				}
				lost(t, x, text[:at]+string([]byte{b})+text[at:])
			}
			lost(t, x, text[:at])
			lost(t, x, text[at+1:])
			lost(t, x, text[:at]+text[at+1:])
		}
		wantTaken(t, "the token", x, text, said(one, id(1), 20))
	}
}

// lost is wantLost of Find alone.
func lost(t *testing.T, x *ledger.Tx, text string) {
	t.Helper()
	if c, there := engine.Find(x, text); there || lineOf(c) != lineOf(api.Claims{}) {
		t.Fatalf("%q is taken", text)
	}
}
