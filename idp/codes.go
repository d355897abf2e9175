package idp

import (
	"slices"

	"postern/api"
	"postern/claim"
	"postern/digest"
	"postern/radix"
	"postern/shift"
)

// challengeLetters are those of a SHA-256 in base64url.
const challengeLetters = 43

func (t *turn) authorize(session, client, redirect string, scopes []string, challenge string) (string, api.Errno) {
	s, c, e := t.both(session, client)
	if e != api.OK {
		return "", e
	}
	if !slices.Contains(c.Redirects, redirect) {
		return "", api.ErrIdpRedirect
	}
	set, e := asked(scopes, c.Scopes)
	if e != api.OK {
		return "", e
	}
	consent, _ := t.Consent(s.User, client)
	switch {
	case !claim.Within(set, consent.Scopes):
		return "", api.ErrIdpConsent
	case !mayBeChallenge(challenge, c.Public):
		return "", api.ErrIdpChallenge
	case len(t.codes()) >= api.MaxCodes:
		return "", api.ErrIdpFull
	}
	id, exp, e := t.begun(t.config.Code)
	if e != api.OK {
		return "", e
	}
	t.PutCode(api.Code{ID: id, User: s.User, Client: client, Redirect: redirect, Scopes: set, Challenge: challenge, Exp: exp})
	return textOf(codeFront, id), api.OK
}

// mayBeChallenge: a public client has no secret, so its codes are never without one.
func mayBeChallenge(challenge string, public bool) bool {
	if challenge == "" {
		return !public
	}
	_, e := radix.Bytes64(challenge)
	return len(challenge) == challengeLetters && e == api.OK
}

// answers tells whether a verifier is that of a challenge.
func answers(verifier, challenge string) bool {
	if challenge == "" {
		return verifier == ""
	}
	if len(verifier) > api.MaxVerifier {
		return false
	}
	sum := digest.Sum([]byte(verifier))
	return radix.Text64(sum[:]) == challenge
}

func (t *turn) exchange(client, secret, text, redirect, verifier string) (api.Issued, api.Errno) {
	c, is := t.itself(client, secret)
	if !is {
		return api.Issued{}, api.ErrIdpAuth
	}
	code, there := t.code(text)
	switch {
	case !there || code.Client != client:
		return api.Issued{}, api.ErrIdpGrant
	case code.Grant != 0:
		t.dieAgain(code.Grant)
		return api.Issued{}, api.ErrIdpGrant
	case code.Redirect != redirect || !answers(verifier, code.Challenge):
		return api.Issued{}, api.ErrIdpGrant
	case len(t.grants()) >= api.MaxGrants:
		return api.Issued{}, api.ErrIdpFull
	}
	t.wantShift()
	g := api.Grant{N: t.Next(), User: code.User, Client: client, Scopes: code.Scopes, Engine: shift.Mints(t.Tx), Live: true}
	issued, e := t.issue(g, c.Aud, code.Scopes)
	if e != api.OK {
		return api.Issued{}, e
	}
	t.SetNext(g.N + 1)
	code.Grant = g.N
	t.PutCode(code)
	return issued, api.OK
}

// dieAgain lets the grant of a code die that is handed in once more: whoever hands it in may have stolen it.
func (t *turn) dieAgain(n uint64) {
	if g, there := t.grant(n); there && g.Live {
		t.die(g)
	}
}
