package ledger

import "postern/api"

// How many of them their count has room for.
const (
	maxRing = 1<<8 - 1
	maxList = 1<<16 - 1
)

// isRow tells whether a pair is a row of some kind.
func isRow(key, value []byte) bool {
	switch key[0] {
	case 'c':
		return configRows().is(key, value)
	case 't':
		return clockRows().is(key, value)
	case 'n':
		return nextRows().is(key, value)
	case 's':
		return shiftRows().is(key, value)
	case 'k':
		return ringRows().is(key, value)
	case 'r':
		return revokedRows().is(key, value)
	case 'U':
		return userRows().is(key, value)
	case 'C':
		return clientRows().is(key, value)
	case 'O':
		return consentRows().is(key, value)
	case 'S':
		return sessionRows().is(key, value)
	case 'D':
		return codeRows().is(key, value)
	case 'G':
		return grantRows().is(key, value)
	case 'R':
		return refreshRows().is(key, value)
	case 'H':
		return heldRows().is(key, value)
	}
	return false
}

func configRows() kind[api.Config] {
	return kind[api.Config]{'c', alone, func(c *api.Config) field {
		return fields(text(&c.Issuer), integer(&c.Access), integer(&c.Refresh), integer(&c.Code), integer(&c.Session),
			integer(&c.Rounds), integer(&c.Lock.Half), number(&c.Lock.Limit, width8), small(&c.Engine))
	}}
}

func clockRows() kind[int64] { return kind[int64]{'t', alone, integer} }

func nextRows() kind[uint64] {
	return kind[uint64]{'n', alone, func(n *uint64) field { return number(n, width8) }}
}

func shiftRows() kind[api.Shift] {
	return kind[api.Shift]{'s', alone, func(s *api.Shift) field {
		return fields(flag(&s.On), small(&s.From), small(&s.To), number(&s.Cursor, width8), number(&s.Epoch, width8))
	}}
}

func ringRows() kind[api.Ring] {
	return kind[api.Ring]{'k', alone, func(r *api.Ring) field {
		return fields(number(&r.Next, width8), each(&r.Keys, width1, maxRing, ringKey))
	}}
}

func ringKey(k *api.Key) field {
	return fields(number(&k.Kid, width8), block(&k.Secret), integer(&k.Until))
}

func revokedRows() kind[[]api.Revoked] {
	return kind[[]api.Revoked]{'r', alone, func(l *[]api.Revoked) field { return each(l, width2, maxList, entry) }}
}

func entry(r *api.Revoked) field {
	return fields(flag(&r.Whole), number(&r.Grant, width8), id(&r.ID), integer(&r.Exp))
}

func userRows() kind[api.User] {
	return kind[api.User]{'U',
		func(r *api.User) field { return text(&r.Name) },
		func(r *api.User) field {
			return fields(text(&r.Name), id(&r.Salt), block(&r.Digest), number(&r.Meter.Score, width8), integer(&r.Meter.At))
		}}
}

func clientRows() kind[api.Client] {
	return kind[api.Client]{'C',
		func(r *api.Client) field { return text(&r.ID) },
		func(r *api.Client) field {
			return fields(text(&r.ID), text(&r.Aud), flag(&r.Public), redirects(&r.Redirects), scopes(&r.Scopes), id(&r.Salt), block(&r.Digest))
		}}
}

func consentRows() kind[api.Consent] {
	return kind[api.Consent]{'O',
		func(r *api.Consent) field { return fields(text(&r.User), text(&r.Client)) },
		func(r *api.Consent) field { return fields(text(&r.User), text(&r.Client), scopes(&r.Scopes)) }}
}

func sessionRows() kind[api.Session] {
	return kind[api.Session]{'S',
		func(r *api.Session) field { return id(&r.ID) },
		func(r *api.Session) field { return fields(id(&r.ID), text(&r.User), integer(&r.Exp)) }}
}

func codeRows() kind[api.Code] {
	return kind[api.Code]{'D',
		func(r *api.Code) field { return id(&r.ID) },
		func(r *api.Code) field {
			return fields(id(&r.ID), text(&r.User), text(&r.Client), text(&r.Redirect), scopes(&r.Scopes),
				text(&r.Challenge), integer(&r.Exp), number(&r.Grant, width8))
		}}
}

func grantRows() kind[api.Grant] {
	return kind[api.Grant]{'G',
		func(r *api.Grant) field { return number(&r.N, width8) },
		func(r *api.Grant) field {
			return fields(number(&r.N, width8), text(&r.User), text(&r.Client), scopes(&r.Scopes), small(&r.Engine), flag(&r.Live),
				id(&r.Current), integer(&r.Exp), integer(&r.Last), integer(&r.Sealed), integer(&r.Issues))
		}}
}

func refreshRows() kind[api.Refresh] {
	return kind[api.Refresh]{'R',
		func(r *api.Refresh) field { return id(&r.ID) },
		func(r *api.Refresh) field { return fields(id(&r.ID), number(&r.Grant, width8), integer(&r.Exp)) }}
}

func heldRows() kind[api.Held] {
	return kind[api.Held]{'H',
		func(r *api.Held) field { return id(&r.Claims.ID) },
		func(r *api.Held) field { return fields(claims(&r.Claims), number(&r.Kid, width8)) }}
}

func claims(c *api.Claims) field {
	return fields(text(&c.Iss), text(&c.Sub), text(&c.Client), text(&c.Aud), scopes(&c.Scopes),
		number(&c.Grant, width8), integer(&c.Iat), integer(&c.Exp), id(&c.ID))
}
