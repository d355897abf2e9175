package idp_test

import (
	"fmt"
	"math/rand"
	"slices"
	"strings"
	"testing"

	"postern/api"
	"postern/revoke"
)

// runner carries a script out over a provider.
type runner struct {
	*world
	tokens []string // the access tokens, by their names
}

func newRunner(t *testing.T, c api.Config) *runner { return &runner{world: opened(t, c)} }

// called tells a token by its name; another text is itself.
func (r *runner) called(name string) string {
	if n := named(name); n >= 0 {
		return r.tokens[n]
	}
	return name
}

// issued names the new access token.
func (r *runner) issued(i api.Issued, e api.Errno) string {
	if e != api.OK {
		wantNothing(r.t, "issued", i)
		return none(e)
	}
	r.tokens = append(r.tokens, i.Access)
	return answer(e, fmt.Sprint("$", len(r.tokens)-1), i.Refresh, i.Scopes, i.Exp, i.Life)
}

// told tells an answer of one thing.
func (r *runner) told(v any, e api.Errno) string {
	if e != api.OK {
		wantNothing(r.t, "told", v)
		return none(e)
	}
	return answer(e, v)
}

func (r *runner) do(o op) string {
	p := r.p
	switch o.what {
	case "user":
		return none(p.AddUser(o.a[0], o.a[1]))
	case "client":
		return none(p.AddClient(api.Client{ID: o.a[0], Aud: "api of " + o.a[0], Public: o.a[1] == "", Redirects: []string{"y", "x"}, Scopes: o.l}, o.a[1]))
	case "login":
		s, e := p.Login(o.a[0], o.a[1])
		return r.told(s, e)
	case "logout":
		return none(p.Logout(o.a[0]))
	case "password":
		n, e := p.SetPassword(o.a[0], o.a[1], o.a[2])
		return r.told(n, e)
	case "unuser":
		n, e := p.RemoveUser(o.a[0])
		return r.told(n, e)
	case "unclient":
		n, e := p.RemoveClient(o.a[0])
		return r.told(n, e)
	case "consent":
		return none(p.Consent(o.a[0], o.a[1], o.l))
	case "authorize":
		c, e := p.Authorize(o.a[0], o.a[1], o.a[2], o.l, o.a[3])
		return r.told(c, e)
	case "exchange":
		return r.issued(p.Exchange(o.a[0], o.a[1], o.a[2], o.a[3], o.a[4]))
	case "renew":
		return r.issued(p.Renew(o.a[0], o.a[1], o.a[2], o.l))
	case "revoke":
		return none(p.Revoke(o.a[0], o.a[1], r.called(o.a[2])))
	case "withdraw":
		n, e := p.Withdraw(o.a[0], o.a[1])
		return r.told(n, e)
	case "introspect":
		c, is, e := p.Introspect(o.a[0], o.a[1], r.called(o.a[2]))
		return r.told(found{c, is}, e)
	case "find":
		c, is, e := p.Find(r.called(o.a[0]))
		return r.told(found{c, is}, e)
	case "rotate":
		k, e := p.Rotate()
		return r.told(k, e)
	case "distrust":
		return none(p.Distrust(uint64(o.n)))
	case "tick":
		return none(p.Tick(o.n))
	case "compact":
		return none(p.Compact())
	}
	panic(o.what)
}

// script draws ops: mostly such as may be, of what the model has handed out.
type script struct {
	r                          *rand.Rand
	sessions, codes, refreshes []string
	tokens                     int
	verifiers                  map[string]string // by the code
	clientOf                   map[string]string
	grows, fumbles             bool // nothing is taken back; passwords are often wrong
}

func newScript(r *rand.Rand) *script {
	return &script{r: r, verifiers: map[string]string{}, clientOf: map[string]string{}}
}

func (s *script) one(l ...string) string {
	if len(l) == 0 {
		return "none"
	}
	return l[s.r.Intn(len(l))]
}

// late tells one of a list, mostly one of the last ones.
func (s *script) late(l []string) string {
	if n := len(l); n > 4 && s.r.Intn(4) > 0 {
		l = l[n-4:]
	}
	return s.one(l...)
}

func (s *script) often(usual string, others ...string) string {
	if s.r.Intn(8) > 0 {
		return usual
	}
	return s.one(append(others, "", long(257))...)
}

func (s *script) user() string { return s.often(s.one("ann", "bob", "eve"), "dan", long(64), long(65)) }

func (s *script) client() string { return s.often(s.one("shop", "more", "app"), "none") }

func (s *script) scopes() []string {
	return [][]string{{"a"}, {"b"}, {"a", "b"}, {"b", "a", "b"}, {"c"}, {"a", "c"}, {}, {"b", "c"}, {"a"}, {"a", "b", "c"}}[s.r.Intn(10)]
}

func secretFor(client string) string { return map[string]string{"shop": "s", "more": "m"}[client] }

func (s *script) token() string {
	if s.tokens == 0 {
		return "none"
	}
	n := s.r.Intn(s.tokens)
	if s.r.Intn(3) > 0 {
		n = max(0, s.tokens-1-s.r.Intn(5))
	}
	return s.often(fmt.Sprint("$", n), "at_", "a.b.c", fake("at_"), s.late(s.refreshes))
}

func (s *script) next() op {
	o := s.any()
	for s.grows && slices.Contains([]string{"logout", "password", "unuser", "unclient", "withdraw"}, o.what) {
		o = s.any()
	}
	if s.fumbles && o.what == "find" {
		o = op{what: "password", a: []string{s.late(s.sessions), "", s.often("pw", "px")}}
	}
	if s.fumbles && slices.Contains([]string{"login", "password"}, o.what) {
		o.a[1] = s.one("pw", "no")
	}
	return o
}

func (s *script) any() op {
	r := s.r
	client := s.client()
	secret := s.often(secretFor(client), "x", "s", "m")
	session := s.often(s.late(s.sessions), fake("se_"), s.late(s.codes))
	switch n := r.Intn(100); {
	case n < 4:
		return op{what: "user", a: []string{s.user(), s.often("pw", "px")}}
	case n < 8:
		id := s.client()
		return op{what: "client", a: []string{id, secretFor(id)}, l: s.scopes()}
	case n < 18:
		return op{what: "login", a: []string{s.user(), s.often("pw", "px", "no")}}
	case n < 20:
		return op{what: "logout", a: []string{session}}
	case n < 22:
		return op{what: "password", a: []string{session, s.one("pw", "pw", "no"), s.often("pw", "px")}}
	case n < 23:
		return op{what: "unuser", a: []string{s.user()}}
	case n < 24:
		return op{what: "unclient", a: []string{s.client()}}
	case n < 32:
		return op{what: "consent", a: []string{session, client}, l: s.scopes()}
	case n < 44:
		verifier := s.one("", "", "v", long(128))
		challenge := ""
		if verifier != "" || client == "app" {
			challenge = challengeOf(verifier)
		}
		return op{what: "authorize", a: []string{session, client, s.often(s.one("x", "y"), "z"), s.often(challenge, "", "!", challengeOf("v")), verifier}, l: s.scopes()}
	case n < 56:
		code := s.often(s.late(s.codes), fake("ac_"))
		of := s.often(s.clientOf[code], client)
		return op{what: "exchange", a: []string{of, s.often(secretFor(of), "x"), code, s.one("x", "y"), s.often(s.verifiers[code], "v")}}
	case n < 68:
		refresh := s.often(s.late(s.refreshes), fake("rt_"))
		of := s.often(s.clientOf[refresh], client)
		l := s.scopes()
		if r.Intn(2) == 0 {
			l = nil
		}
		return op{what: "renew", a: []string{of, secretFor(of), refresh}, l: l}
	case n < 74:
		of := s.one("shop", "more", "app")
		return op{what: "revoke", a: []string{of, s.often(secretFor(of), "x"), s.token()}}
	case n < 76:
		return op{what: "withdraw", a: []string{session, client}}
	case n < 80:
		return op{what: "introspect", a: []string{client, secret, s.token()}}
	case n < 86:
		return op{what: "find", a: []string{s.token()}}
	case n < 89:
		return op{what: "rotate"}
	case n < 91:
		return op{what: "distrust", n: int64(r.Intn(12))}
	case n < 99:
		return op{what: "tick", n: []int64{0, 1, 1, 2, 3, 5, 9, -1, 40}[r.Intn(9)]}
	}
	return op{what: "compact"}
}

// heard notes what an op has handed out.
func (s *script) heard(o op, line string) {
	if !strings.HasPrefix(line, "0 ") {
		return
	}
	words := strings.Fields(strings.Trim(line[2:], "[]"))
	switch o.what {
	case "login":
		s.sessions = append(s.sessions, words[0])
	case "authorize":
		s.codes = append(s.codes, words[0])
		s.verifiers[words[0]], s.clientOf[words[0]] = o.a[4], o.a[1]
	case "exchange", "renew":
		s.tokens++
		s.refreshes = append(s.refreshes, words[1])
		s.clientOf[words[1]] = o.a[0]
	}
}

// apart tells a State without what hangs on the engines.
func apart(s api.State) api.State {
	s.Shift = api.Shift{}
	s.Grants = slices.Clone(s.Grants)
	for n := range s.Grants {
		s.Grants[n].Engine, s.Grants[n].Sealed = 0, 0
	}
	return s
}

// alike asks that a provider is as the model.
func (r *runner) alike(what string, m *model) {
	r.t.Helper()
	if got, want := lineOf(apart(r.state())), lineOf(m.state()); got != want {
		r.t.Fatalf("%s: the state is\n%s, not\n%s", what, got, want)
	}
	if got, want := lineOf(r.ring()), lineOf(m.ring); got != want {
		r.t.Fatalf("%s: the ring is %s, not %s", what, got, want)
	}
	for n, text := range r.tokens {
		c, is, e := r.p.Find(text)
		if got, want := lineOf(found{c, is}), lineOf(m.find(fmt.Sprint("$", n))); e != api.OK || got != want {
			r.t.Fatalf("%s: token %d: %s, %d, not %s", what, n, got, e, want)
		}
	}
	r.leaves(what, m)
}

// isSealed tells whether a token is a sealed one.
func (r *runner) isSealed(n int) bool { return strings.Contains(r.tokens[n], ".") }

// leaves asks that list entries, held claims and refresh tokens are those that the grants' lives leave (W6).
func (r *runner) leaves(what string, m *model) {
	r.t.Helper()
	l := r.revoked()
	wantErrno(r.t, what+": the list", revoke.Check(l), api.OK)
	entries := m.revoked(r.isSealed)
	count := map[uint64]int{}
	for _, x := range l {
		count[x.Grant]++
		g, there := m.grants[x.Grant]
		if x.Exp <= m.clock || !there || x.Whole == g.Live || count[x.Grant] > entries[x.Grant] {
			r.t.Errorf("%s: an entry %+v, clock %d, of the grant %+v", what, x, m.clock, g)
		}
	}
	var held []string
	for n, k := range m.tokens {
		if !k.gone && k.claims.Exp > m.clock && !r.isSealed(n) {
			held = append(held, fmt.Sprintf("%x %s", k.claims.ID, lineOf(api.Held{Claims: k.claims, Kid: k.kid})))
		}
	}
	slices.Sort(held)
	var got []string
	for _, h := range r.held() {
		got = append(got, fmt.Sprintf("%x %s", h.Claims.ID, lineOf(h)))
	}
	if !slices.Equal(got, held) {
		r.t.Errorf("%s: held tokens\n%q, not\n%q", what, got, held)
	}
}

// migrate takes a step of a migration now and then; it tells nothing to the model, and nothing of the model's changes by it (W3). What it answers itself is W7's.
func (r *runner) migrate(rnd *rand.Rand) {
	r.t.Helper()
	x := r.state().Shift
	if !x.On {
		if rnd.Intn(5) == 0 {
			wantErrno(r.t, "Begin", r.p.Begin(sealed+held-x.From), api.OK)
		}
		return
	}
	n := 1 + rnd.Intn(3)
	left := 0
	for _, g := range r.state().Grants {
		if g.Live && g.Engine == x.From {
			left++
		}
	}
	moved, ended, e := r.p.Step(n)
	if e != api.OK || moved != min(n, left) || ended != (left == 0) {
		r.t.Errorf("Step of %d, with %d left: %d, %v, %d", n, left, moved, ended, e)
	}
	for _, g := range r.state().Grants {
		if ended && g.Live && g.Engine == x.From {
			r.t.Errorf("behind the end grant %d is the old engine's", g.N)
		}
	}
}

// TestFollows: providers of both engines, and such that migrate all the time, answer every script as one model, and are as it is (W1, W2, W3, W6, W7, W9).
func TestP17_Follows(t *testing.T) {
	seen := map[string]int{}
	for seed := range int64(80) {
		rnd := rand.New(rand.NewSource(1700 + seed))
		c := config(sealed)
		c.Access, c.Refresh, c.Code, c.Session = int64(1+rnd.Intn(20)), int64(1+rnd.Intn(60)), int64(1+rnd.Intn(30)), int64(1+rnd.Intn(60))
		size, grows := 400, seed%20 == 19
		if grows {
			// Long lives: so limits are met.
			c.Access, c.Refresh, c.Code, c.Session, size = 1<<40, 1<<40, 1<<40, 1<<40, 1200
		}
		d := c
		d.Engine = held
		runners := []*runner{newRunner(t, c), newRunner(t, d), newRunner(t, c), newRunner(t, d)}
		m, s := newModel(c, &hand{}), newScript(rnd)
		s.grows, s.fumbles = grows, seed%4 == 1
		ops := []op{{what: "user", a: []string{"ann", "pw"}}, {what: "user", a: []string{"bob", "pw"}}}
		for _, id := range []string{"shop", "more", "app"} {
			ops = append(ops, op{what: "client", a: []string{id, secretFor(id)}, l: []string{"a", "b"}})
		}
		for n := range size {
			o := s.next()
			if n < len(ops) {
				o = ops[n]
			}
			want := m.do(o)
			seen[o.what+" "+strings.Fields(want)[0]]++
			for k, r := range runners {
				if k >= 2 && rnd.Intn(4) == 0 {
					r.migrate(rnd)
				}
				if got := r.do(o); got != want {
					t.Fatalf("seed %d, %d: %+v: provider %d answers %s, not %s", seed, n, o, k, got, want)
				}
				if rnd.Intn(150) == 0 {
					r.open()
				}
			}
			s.heard(o, want)
			if n%10 == 0 && !grows || n%100 == 0 {
				for k, r := range runners {
					r.alike(fmt.Sprintf("seed %d, %d: provider %d", seed, n, k), m)
				}
			}
			if t.Failed() {
				t.Fatalf("seed %d, %d: %+v", seed, n, o)
			}
		}
	}
	wantSeen(t, seen)
}

// wantSeen asks that a walk has met each answer that its ops may have.
func wantSeen(t *testing.T, seen map[string]int) {
	t.Helper()
	for what, l := range map[string][]api.Errno{
		"user":       {api.OK, api.ErrIdpName, api.ErrIdpTwice},
		"client":     {api.OK, api.ErrIdpName, api.ErrIdpTwice},
		"login":      {api.OK, api.ErrIdpLogin, api.ErrIdpLocked, api.ErrIdpFull},
		"logout":     {api.OK, api.ErrIdpSession},
		"password":   {api.OK, api.ErrIdpSession, api.ErrIdpName, api.ErrIdpLogin, api.ErrIdpLocked},
		"unuser":     {api.OK, api.ErrIdpUser},
		"unclient":   {api.OK, api.ErrIdpClient},
		"consent":    {api.OK, api.ErrIdpSession, api.ErrIdpClient, api.ErrIdpScope},
		"authorize":  {api.OK, api.ErrIdpSession, api.ErrIdpClient, api.ErrIdpRedirect, api.ErrIdpScope, api.ErrIdpConsent, api.ErrIdpChallenge},
		"exchange":   {api.OK, api.ErrIdpAuth, api.ErrIdpGrant},
		"renew":      {api.OK, api.ErrIdpAuth, api.ErrIdpGrant, api.ErrIdpScope},
		"revoke":     {api.OK, api.ErrIdpAuth},
		"withdraw":   {api.OK, api.ErrIdpSession, api.ErrIdpClient},
		"introspect": {api.OK, api.ErrIdpAuth},
		"rotate":     {api.OK, api.ErrIdpFull},
		"distrust":   {api.OK, api.ErrIdpKey},
		"tick":       {api.OK, api.ErrIdpClock},
	} {
		for _, e := range l {
			if seen[what+" "+fmt.Sprint(e)] == 0 {
				t.Errorf("the walk has never met %s with %d", what, e)
			}
		}
	}
}
