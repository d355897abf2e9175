package idp_test

import (
	"cmp"
	"fmt"
	"maps"
	"math"
	"slices"
	"strings"

	"postern/api"
	"postern/meter"
	"postern/ring"
)

// op is a line of a script: a call and what it is made with; an access token stands there by its name.
type op struct {
	what string
	a    []string
	l    []string
	n    int64
}

// token is what a model knows of an access token: nothing of how it was made.
type token struct {
	claims api.Claims
	kid    uint64
	gone   bool
}

// model is a provider by the chapter's words: all that there ever was, and what of it has gone.
type model struct {
	c         api.Config
	h         *hand
	clock     int64
	next      uint64
	batches   uint64
	users     map[string]api.User
	clients   map[string]api.Client
	consents  map[[2]string][]string
	sessions  map[string]api.Session
	codes     map[string]api.Code
	grants    map[uint64]api.Grant
	refreshes map[string]api.Refresh
	ring      api.Ring
	tokens    []token
	touched   bool // something has changed in this call
}

func newModel(c api.Config, h *hand) *model {
	h.draws(2)
	return &model{c: c, h: h, next: 1, batches: 1, users: map[string]api.User{}, clients: map[string]api.Client{}, consents: map[[2]string][]string{}, sessions: map[string]api.Session{},
		codes: map[string]api.Code{}, grants: map[uint64]api.Grant{}, refreshes: map[string]api.Refresh{}, ring: ring.First(secretOf(1, 2))}
}

// do carries an op out, and tells its answer.
func (m *model) do(o op) string {
	m.touched = false
	line := m.act(o)
	if m.touched {
		m.batches++
		m.settle()
	}
	return line
}

// settle takes away what is expired.
func (m *model) settle() {
	maps.DeleteFunc(m.sessions, func(_ string, r api.Session) bool { return r.Exp <= m.clock })
	maps.DeleteFunc(m.codes, func(_ string, r api.Code) bool { return r.Exp <= m.clock })
	maps.DeleteFunc(m.refreshes, func(_ string, r api.Refresh) bool { return r.Exp <= m.clock })
	maps.DeleteFunc(m.grants, func(_ uint64, g api.Grant) bool {
		return !(g.Live && (g.Exp > m.clock || g.Last > m.clock) || !g.Live && g.Last > m.clock)
	})
	m.ring = ring.Prune(m.ring, m.clock)
}

func (m *model) ends(life int64) int64 { return m.clock + life }

func (m *model) beyond(life int64) bool { return m.clock > math.MaxInt64-life }

func answer(e api.Errno, v ...any) string { return fmt.Sprint(e) + " " + fmt.Sprintf("%+v", v) }

func none(e api.Errno) string { return answer(e) }

func (m *model) itself(id, secret string) bool {
	c, there := m.clients[id]
	if !there || len(secret) > 256 {
		return false
	}
	if c.Public {
		return len(secret) == 0
	}
	return passOf(c.Salt, secret, m.c.Rounds) == c.Digest
}

func (m *model) act(o op) string {
	switch o.what {
	case "user":
		return m.addUser(o.a[0], o.a[1])
	case "client":
		return m.addClient(o.a[0], o.a[1], o.l)
	case "login":
		return m.login(o.a[0], o.a[1])
	case "logout":
		s, there := m.sessions[o.a[0]]
		if !there {
			return none(api.ErrIdpSession)
		}
		m.touched = true
		delete(m.sessions, text("se_", s.ID))
		return none(api.OK)
	case "password":
		return m.setPassword(o.a[0], o.a[1], o.a[2])
	case "unuser":
		if _, there := m.users[o.a[0]]; !there {
			return none(api.ErrIdpUser)
		}
		m.touched = true
		delete(m.users, o.a[0])
		maps.DeleteFunc(m.sessions, func(_ string, r api.Session) bool { return r.User == o.a[0] })
		return answer(api.OK, m.withdraw(o.a[0], "", true))
	case "unclient":
		if _, there := m.clients[o.a[0]]; !there {
			return none(api.ErrIdpClient)
		}
		m.touched = true
		delete(m.clients, o.a[0])
		return answer(api.OK, m.withdraw("", o.a[0], true))
	case "consent":
		return m.consent(o.a[0], o.a[1], o.l)
	case "authorize":
		return m.authorize(o.a[0], o.a[1], o.a[2], o.l, o.a[3])
	case "exchange":
		return m.exchange(o.a[0], o.a[1], o.a[2], o.a[3], o.a[4])
	case "renew":
		return m.renew(o.a[0], o.a[1], o.a[2], o.l)
	case "revoke":
		return m.revoke(o.a[0], o.a[1], o.a[2])
	case "withdraw":
		s, there := m.sessions[o.a[0]]
		if !there {
			return none(api.ErrIdpSession)
		}
		if _, there := m.clients[o.a[1]]; !there {
			return none(api.ErrIdpClient)
		}
		return answer(api.OK, m.withdraw(s.User, o.a[1], true))
	case "introspect":
		if !m.itself(o.a[0], o.a[1]) {
			return none(api.ErrIdpAuth)
		}
		return answer(api.OK, m.find(o.a[2]))
	case "find":
		return answer(api.OK, m.find(o.a[0]))
	case "rotate":
		return m.rotate()
	case "distrust":
		return m.distrust(uint64(o.n))
	case "tick":
		if o.n < 0 || m.beyond(o.n) {
			return none(api.ErrIdpClock)
		}
		m.touched = o.n > 0
		m.clock += o.n
		return none(api.OK)
	case "compact":
		return none(api.OK)
	}
	panic(o.what)
}

func (m *model) addUser(name, password string) string {
	if name == "" || len(name) > 64 || password == "" || len(password) > 256 {
		return none(api.ErrIdpName)
	}
	if _, there := m.users[name]; there {
		return none(api.ErrIdpTwice)
	}
	if len(m.users) == 64 {
		return none(api.ErrIdpFull)
	}
	salt := m.h.draws(1)[0]
	m.touched = true
	m.users[name] = api.User{Name: name, Salt: salt, Digest: passOf(salt, password, m.c.Rounds)}
	return none(api.OK)
}

// addClient adds a client of the redirects x and y; without a secret it is a public one.
func (m *model) addClient(id, secret string, scopes []string) string {
	if id == "" || len("api of "+id) > 64 || len(scopes) == 0 || !slices.IsSorted(scopes) || len(slices.Compact(slices.Clone(scopes))) < len(scopes) {
		return none(api.ErrIdpName)
	}
	if _, there := m.clients[id]; there {
		return none(api.ErrIdpTwice)
	}
	if len(m.clients) == 16 {
		return none(api.ErrIdpFull)
	}
	c := api.Client{ID: id, Aud: "api of " + id, Public: secret == "", Redirects: []string{"y", "x"}, Scopes: slices.Clone(scopes)}
	if secret != "" {
		c.Salt = m.h.draws(1)[0]
		c.Digest = passOf(c.Salt, secret, m.c.Rounds)
	}
	m.touched = true
	m.clients[id] = c
	return none(api.OK)
}

// admit tells why a user is not let in; what it has changed stays.
func (m *model) admit(u api.User, password string) api.Errno {
	if meter.Locked(m.c.Lock, u.Meter, m.clock) {
		return api.ErrIdpLocked
	}
	if len(password) > 256 || passOf(u.Salt, password, m.c.Rounds) != u.Digest {
		u.Meter = meter.Fail(m.c.Lock, u.Meter, m.clock)
		m.users[u.Name] = u
		m.touched = true
		return api.ErrIdpLogin
	}
	return api.OK
}

func (m *model) login(user, password string) string {
	u, there := m.users[user]
	if !there {
		return none(api.ErrIdpLogin)
	}
	if e := m.admit(u, password); e != api.OK {
		return none(e)
	}
	if len(m.sessions) == 64 {
		return none(api.ErrIdpFull)
	}
	if m.beyond(m.c.Session) {
		return none(api.ErrIdpClock)
	}
	d := m.h.draws(1)[0]
	u.Meter = meter.Pass(m.c.Lock, u.Meter, m.clock)
	m.users[user] = u
	m.sessions[text("se_", d)] = api.Session{ID: d, User: user, Exp: m.ends(m.c.Session)}
	m.touched = true
	return answer(api.OK, text("se_", d))
}

func (m *model) setPassword(session, old, password string) string {
	s, there := m.sessions[session]
	if !there {
		return none(api.ErrIdpSession)
	}
	if password == "" || len(password) > 256 {
		return none(api.ErrIdpName)
	}
	if e := m.admit(m.users[s.User], old); e != api.OK {
		return none(e)
	}
	u := m.users[s.User]
	u.Salt = m.h.draws(1)[0]
	u.Digest = passOf(u.Salt, password, m.c.Rounds)
	u.Meter = meter.Pass(m.c.Lock, u.Meter, m.clock)
	m.users[s.User] = u
	m.touched = true
	maps.DeleteFunc(m.sessions, func(text string, r api.Session) bool { return r.User == s.User && text != session })
	return answer(api.OK, m.withdraw(s.User, "", false))
}

// withdraw takes back what a user (of no name: all) has let a client (of no name: all) do; it tells how many grants have died.
func (m *model) withdraw(user, client string, consents bool) int {
	is := func(u, c string) bool { return (user == "" || u == user) && (client == "" || c == client) }
	for k := range m.consents {
		if consents && is(k[0], k[1]) {
			delete(m.consents, k)
			m.touched = true
		}
	}
	for k, r := range m.codes {
		if is(r.User, r.Client) {
			delete(m.codes, k)
			m.touched = true
		}
	}
	died := 0
	for n, g := range m.grants {
		if g.Live && is(g.User, g.Client) {
			m.die(n)
			died++
		}
	}
	return died
}

func (m *model) die(n uint64) {
	g := m.grants[n]
	g.Live = false
	m.grants[n] = g
	maps.DeleteFunc(m.refreshes, func(_ string, r api.Refresh) bool { return r.Grant == n })
	m.goes(func(k token) bool { return k.claims.Grant == n })
	m.touched = true
}

func (m *model) goes(which func(k token) bool) {
	for n, k := range m.tokens {
		if which(k) {
			m.tokens[n].gone = true
		}
	}
}

// asked tells the set of a list of scopes, if it may be asked for.
func asked(l, may []string) ([]string, bool) {
	set := slices.Compact(slices.Sorted(slices.Values(l)))
	for _, s := range set {
		if !slices.Contains(may, s) {
			return nil, false
		}
	}
	return set, len(set) > 0
}

func (m *model) consent(session, client string, l []string) string {
	s, there := m.sessions[session]
	if !there {
		return none(api.ErrIdpSession)
	}
	c, there := m.clients[client]
	if !there {
		return none(api.ErrIdpClient)
	}
	if _, may := asked(l, c.Scopes); !may {
		return none(api.ErrIdpScope)
	}
	k := [2]string{s.User, client}
	all, _ := asked(append(slices.Clone(m.consents[k]), l...), c.Scopes)
	m.touched = len(all) > len(m.consents[k])
	m.consents[k] = all
	return none(api.OK)
}

func (m *model) authorize(session, client, redirect string, l []string, challenge string) string {
	s, there := m.sessions[session]
	if !there {
		return none(api.ErrIdpSession)
	}
	c, there := m.clients[client]
	if !there {
		return none(api.ErrIdpClient)
	}
	if redirect != "x" && redirect != "y" {
		return none(api.ErrIdpRedirect)
	}
	set, may := asked(l, c.Scopes)
	if !may {
		return none(api.ErrIdpScope)
	}
	if _, may := asked(l, m.consents[[2]string{s.User, client}]); !may {
		return none(api.ErrIdpConsent)
	}
	if challenge == "" && c.Public || challenge != "" && len(challenge) != 43 {
		return none(api.ErrIdpChallenge)
	}
	if len(m.codes) == 64 {
		return none(api.ErrIdpFull)
	}
	if m.beyond(m.c.Code) {
		return none(api.ErrIdpClock)
	}
	d := m.h.draws(1)[0]
	m.codes[text("ac_", d)] = api.Code{ID: d, User: s.User, Client: client, Redirect: redirect, Scopes: set, Challenge: challenge, Exp: m.ends(m.c.Code)}
	m.touched = true
	return answer(api.OK, text("ac_", d))
}

func (m *model) exchange(client, secret, code, redirect, verifier string) string {
	if !m.itself(client, secret) {
		return none(api.ErrIdpAuth)
	}
	r, there := m.codes[code]
	if !there || r.Client != client {
		return none(api.ErrIdpGrant)
	}
	if r.Grant > 0 {
		if m.grants[r.Grant].Live {
			m.die(r.Grant)
		}
		return none(api.ErrIdpGrant)
	}
	right := verifier == ""
	if r.Challenge != "" {
		right = len(verifier) <= 128 && challengeOf(verifier) == r.Challenge
	}
	if r.Redirect != redirect || !right {
		return none(api.ErrIdpGrant)
	}
	if len(m.grants) == 64 {
		return none(api.ErrIdpFull)
	}
	if m.beyond(max(m.c.Access, m.c.Refresh)) {
		return none(api.ErrIdpClock)
	}
	g := api.Grant{N: m.next, User: r.User, Client: client, Scopes: r.Scopes, Live: true}
	m.next++
	r.Grant = g.N
	m.codes[code] = r
	return m.issue(g, r.Scopes)
}

func (m *model) issue(g api.Grant, scopes []string) string {
	l := m.h.draws(2)
	kid := m.ring.Keys[len(m.ring.Keys)-1].Kid
	c := api.Claims{Iss: m.c.Issuer, Sub: g.User, Client: g.Client, Aud: m.clients[g.Client].Aud, Scopes: scopes, Grant: g.N, Iat: m.clock, Exp: m.ends(m.c.Access), ID: l[0]}
	m.tokens = append(m.tokens, token{claims: c, kid: kid})
	g.Current, g.Exp, g.Last, g.Issues = l[1], m.ends(m.c.Refresh), c.Exp, g.Issues+1
	m.grants[g.N] = g
	m.refreshes[text("rt_", l[1])] = api.Refresh{ID: l[1], Grant: g.N, Exp: g.Exp}
	m.touched = true
	return answer(api.OK, fmt.Sprint("$", len(m.tokens)-1), text("rt_", l[1]), scopes, c.Exp, m.c.Access)
}

func (m *model) renew(client, secret, refresh string, l []string) string {
	if !m.itself(client, secret) {
		return none(api.ErrIdpAuth)
	}
	r, there := m.refreshes[refresh]
	if !there || m.grants[r.Grant].Client != client {
		return none(api.ErrIdpGrant)
	}
	g := m.grants[r.Grant]
	if g.Current != r.ID {
		m.die(g.N)
		return none(api.ErrIdpGrant)
	}
	if len(l) == 0 {
		l = g.Scopes
	}
	set, may := asked(l, g.Scopes)
	if !may {
		return none(api.ErrIdpScope)
	}
	if g.Issues == 32 {
		return none(api.ErrIdpFull)
	}
	if m.beyond(max(m.c.Access, m.c.Refresh)) {
		return none(api.ErrIdpClock)
	}
	return m.issue(g, set)
}

// named tells the number of a token by its name; -1, if it is none's.
func named(name string) int {
	n := -1
	if strings.HasPrefix(name, "$") {
		fmt.Sscan(name[1:], &n)
	}
	return n
}

func (m *model) taken(name string) (int, bool) {
	n := named(name)
	if n < 0 {
		return n, false
	}
	k := m.tokens[n]
	_, there := ring.Find(m.ring, k.kid)
	return n, !k.gone && there && k.claims.Exp > m.clock
}

func (m *model) find(name string) found {
	n, is := m.taken(name)
	if !is {
		return found{}
	}
	return found{m.tokens[n].claims, true}
}

func (m *model) revoke(client, secret, name string) string {
	if !m.itself(client, secret) {
		return none(api.ErrIdpAuth)
	}
	if r, there := m.refreshes[name]; there && m.grants[r.Grant].Client == client {
		m.die(r.Grant)
	}
	if n, is := m.taken(name); is && m.tokens[n].claims.Client == client {
		m.tokens[n].gone, m.touched = true, true
	}
	return none(api.OK)
}

func (m *model) rotate() string {
	if len(m.ring.Keys) == 8 {
		return none(api.ErrIdpFull)
	}
	if m.beyond(m.c.Access) {
		return none(api.ErrIdpClock)
	}
	at := m.h.drawn
	m.h.draws(2)
	m.ring, _ = ring.Rotate(m.ring, secretOf(at+1, at+2), m.ends(m.c.Access))
	m.touched = true
	return answer(api.OK, m.ring.Next-1)
}

func (m *model) distrust(kid uint64) string {
	if _, there := ring.Find(m.ring, kid); !there {
		return none(api.ErrIdpKey)
	}
	var secret [32]byte
	if m.ring.Keys[len(m.ring.Keys)-1].Kid == kid {
		at := m.h.drawn
		m.h.draws(2)
		secret = secretOf(at+1, at+2)
	}
	m.ring, _ = ring.Distrust(m.ring, kid, secret)
	m.goes(func(k token) bool { return k.kid == kid })
	m.touched = true
	return none(api.OK)
}

// state tells the State, but for what hangs on the engines.
func (m *model) state() api.State {
	s := api.State{Clock: m.clock, Next: m.next}
	s.Users = sorted(m.users, func(r api.User) string { return userKey(r.Name) })
	s.Clients = sorted(m.clients, func(r api.Client) string { return clientKey(r.ID) })
	for k, l := range m.consents {
		s.Consents = append(s.Consents, api.Consent{User: k[0], Client: k[1], Scopes: l})
	}
	slices.SortFunc(s.Consents, func(a, b api.Consent) int {
		return cmp.Compare(consentKey(a.User, a.Client), consentKey(b.User, b.Client))
	})
	s.Sessions = sorted(m.sessions, func(r api.Session) string { return string(r.ID[:]) })
	s.Codes = sorted(m.codes, func(r api.Code) string { return string(r.ID[:]) })
	s.Grants = sorted(m.grants, func(r api.Grant) string { return fmt.Sprintf("%20d", r.N) })
	s.Refreshes = sorted(m.refreshes, func(r api.Refresh) string { return string(r.ID[:]) })
	return s
}

func sorted[K comparable, R any](rows map[K]R, key func(R) string) []R {
	return slices.SortedFunc(maps.Values(rows), func(a, b R) int { return cmp.Compare(key(a), key(b)) })
}

// entries tells how many tokens of a kind are revoked and not expired, by grants.
func (m *model) revoked(is func(n int) bool) map[uint64]int {
	l := map[uint64]int{}
	for n, k := range m.tokens {
		if k.gone && k.claims.Exp > m.clock && is(n) {
			l[k.claims.Grant]++
		}
	}
	return l
}
