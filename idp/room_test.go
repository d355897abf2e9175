package idp_test

import (
	"fmt"
	"strings"
	"testing"

	"postern/api"
)

// wide tells the n-th text of so many bytes.
func wide(n, size int) string { return fmt.Sprintf("%0*d", size, n) }

// TestP17_2FullRoom: a provider that is as full as the limits let it be, of the longest rows, meets no error of room; and is emptied again.
func TestP17_2FullRoom(t *testing.T) {
	if testing.Short() {
		t.Skip("it takes its time")
	}
	for _, kind := range kinds() {
		t.Run(fmt.Sprint(kind), func(t *testing.T) {
			t.Parallel()
			fill(t, kind)
		})
	}
}

func fill(t *testing.T, kind int) {
	c := changed(func(c *api.Config) {
		c.Engine, c.Issuer = kind, wide(0, api.MaxName)
		c.Access, c.Refresh, c.Code, c.Session = 1<<40, 1<<40, 1<<40, 1<<40
	})
	w := opened(t, c)
	var scopes, redirects, clients, sessions []string
	for n := range api.MaxScopes {
		scopes = append(scopes, wide(n, api.MaxScope))
	}
	for n := range api.MaxRedirects {
		redirects = append(redirects, wide(n, api.MaxRedirect))
	}
	for n := range api.MaxClients {
		clients = append(clients, wide(n, api.MaxName))
		w.addClient(api.Client{ID: clients[n], Aud: wide(99, api.MaxName), Redirects: redirects, Scopes: scopes}, "s")
	}
	challenge := challengeOf(long(api.MaxVerifier))
	var codes []string
	for n := range api.MaxUsers {
		w.addUser(wide(n, api.MaxName))
		sessions = append(sessions, w.login(wide(n, api.MaxName)))
		for _, client := range clients {
			w.consent(sessions[n], client, scopes...)
		}
		code, e := w.p.Authorize(sessions[n], clients[n%16], redirects[7], scopes, challenge)
		wantErrno(t, "Authorize", e, api.OK)
		codes = append(codes, code)
	}
	var tokens []string
	for n, code := range codes {
		i, e := w.p.Exchange(clients[n%16], "s", code, redirects[7], long(api.MaxVerifier))
		wantErrno(t, "Exchange", e, api.OK)
		tokens = append(tokens, i.Access)
		for range api.MaxIssues - 1 {
			i, e = w.p.Renew(clients[n%16], "s", i.Refresh, nil)
			wantErrno(t, "Renew", e, api.OK)
			tokens = append(tokens, i.Access)
		}
	}
	st := w.state()
	if len(st.Users) != 64 || len(st.Consents) != 1024 || len(st.Sessions) != 64 || len(st.Codes) != 64 || len(st.Grants) != 64 || len(st.Refreshes) != 2048 {
		t.Errorf("too little stands there")
	}
	// One token of each grant stays, so that entries of single tokens are as many as can be.
	for n, token := range tokens {
		if n%32 > 0 && kind == sealed {
			wantErrno(t, "Revoke", w.p.Revoke(clients[n/32%16], "s", token), api.OK)
		}
	}
	wantSame(t, "entries", len(w.revoked()), map[int]int{sealed: 64 * 31}[kind])
	w.taken("the first of each", true, tokens[0], tokens[32], tokens[2047-31])
	wantErrno(t, "Compact", w.p.Compact(), api.OK)
	w.open()
	for n := range api.MaxClients {
		died, e := w.p.RemoveClient(clients[n])
		wantSame(t, "RemoveClient", died, 4)
		wantErrno(t, "RemoveClient", e, api.OK)
	}
	w.taken("none", false, tokens[0], tokens[32], tokens[2047-31])
	wantSame(t, "the state", strings.Count(lineOf(w.state().Grants), "Live:true"), 0)
	w.tick(1 << 40)
	st = w.state()
	if len(st.Consents)+len(st.Sessions)+len(st.Codes)+len(st.Grants)+len(st.Refreshes)+len(w.revoked())+len(w.held()) > 0 {
		t.Errorf("something is left: %+v", st)
	}
}
