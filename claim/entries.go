package claim

import (
	"strings"

	"postern/api"
	"postern/radix"
	"postern/terse"
)

// The places of the claims in their map.
const (
	atAud = iota
	atClient
	atExp
	atGrant
	atIat
	atIss
	atID
	atScope
	atSub
	entryCount
)

type entry struct {
	key  string
	kind int
}

// entries are the keys and the kinds of the map, each at its place.
var entries = [entryCount]entry{
	{"aud", api.KindText},
	{"client_id", api.KindText},
	{"exp", api.KindInt},
	{"grant", api.KindInt},
	{"iat", api.KindInt},
	{"iss", api.KindText},
	{"jti", api.KindText},
	{"scope", api.KindText},
	{"sub", api.KindText},
}

// idLetters is how many letters of base64url an ID has.
const idLetters = 22

// lay tells the map of claims that may be.
func lay(c api.Claims) api.Value {
	v := api.Value{Kind: api.KindMap, Keys: make([]string, entryCount), Items: make([]api.Value, entryCount)}
	for i, e := range entries {
		v.Keys[i], v.Items[i].Kind = e.key, e.kind
	}
	v.Items[atAud].Text = strings.Clone(c.Aud)
	v.Items[atClient].Text = strings.Clone(c.Client)
	v.Items[atExp].N = c.Exp
	v.Items[atGrant].N = int64(c.Grant)
	v.Items[atIat].N = c.Iat
	v.Items[atIss].Text = strings.Clone(c.Iss)
	v.Items[atID].Text = radix.Text64(c.ID[:])
	v.Items[atScope].Text = Join(c.Scopes)
	v.Items[atSub].Text = strings.Clone(c.Sub)
	return v
}

// read tells the claims of a value, if it has the form of their map; whether they may be is not asked.
func read(v api.Value) (api.Claims, bool) {
	if !hasEntries(v) {
		return api.Claims{}, false
	}
	id, isID := readID(v.Items[atID].Text)
	scopes, isText := readScopes(v.Items[atScope].Text)
	if !isID || !isText || v.Items[atGrant].N < 1 {
		return api.Claims{}, false
	}
	return api.Claims{
		Iss:    strings.Clone(v.Items[atIss].Text),
		Sub:    strings.Clone(v.Items[atSub].Text),
		Client: strings.Clone(v.Items[atClient].Text),
		Aud:    strings.Clone(v.Items[atAud].Text),
		Scopes: scopes,
		Grant:  uint64(v.Items[atGrant].N),
		Iat:    v.Items[atIat].N,
		Exp:    v.Items[atExp].N,
		ID:     id,
	}, true
}

// hasEntries tells whether a value is a map of these entries.
func hasEntries(v api.Value) bool {
	if v.Kind != api.KindMap || len(v.Keys) != entryCount || len(v.Items) != entryCount {
		return false
	}
	for i, e := range entries {
		if v.Keys[i] != e.key || v.Items[i].Kind != e.kind {
			return false
		}
	}
	// Fields that a kind does not use may still hold something. As no item is a list or a map, this goes no deeper.
	return terse.Check(v) == api.OK
}

func readID(s string) (api.ID, bool) {
	var id api.ID
	if len(s) != idLetters {
		return id, false
	}
	b, e := radix.Bytes64(s)
	if e != api.OK {
		return id, false
	}
	copy(id[:], b)
	return id, true
}

// readScopes tells the set whose one text s is.
func readScopes(s string) ([]string, bool) {
	l, e := Split(s)
	if e != api.OK || Join(l) != s {
		return nil, false
	}
	return l, true
}
