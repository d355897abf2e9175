package idp

import (
	"postern/api"
	"postern/ring"
	"postern/shift"
)

func (t *turn) rotate() (uint64, api.Errno) {
	keys := t.keys()
	if len(keys.Keys) >= api.MaxKeys {
		return 0, api.ErrIdpFull
	}
	until, e := t.until(t.config.Access)
	if e != api.OK {
		return 0, e
	}
	// Whether the ring can be turned does not hang on the secret: so it is asked ahead of the draws.
	_, refused := ring.Rotate(keys, [32]byte{}, until)
	t.want(refused == api.OK)
	secret, e := t.secret()
	if e != api.OK {
		return 0, e
	}
	turned, _ := ring.Rotate(keys, secret, until)
	t.SetRing(turned)
	return keys.Next, api.OK
}

func (t *turn) distrust(kid uint64) api.Errno {
	keys := t.keys()
	if _, there := ring.Find(keys, kid); !there {
		return api.ErrIdpKey
	}
	var secret [32]byte
	_, refused := ring.Distrust(keys, kid, secret)
	t.want(refused == api.OK)
	if current, _ := ring.Current(keys); current.Kid == kid {
		var e api.Errno
		if secret, e = t.secret(); e != api.OK {
			return e
		}
	}
	rest, _ := ring.Distrust(keys, kid, secret)
	t.SetRing(rest)
	for _, mill := range engines() {
		mill.Forget(t.Tx, kid)
	}
	return api.OK
}

// step is what a step of a migration tells.
type step struct {
	moved int
	ended bool
}

func (t *turn) beginShift(to int) api.Errno {
	t.wantShift()
	return shift.Begin(t.Tx, to)
}

func (t *turn) stepShift(n int) (step, api.Errno) {
	t.wantShift()
	moved, ended, e := shift.Step(t.Tx, n)
	return step{moved, ended}, e
}

// wantShift asks for a migration from one engine to the other, or for none from one of them.
func (t *turn) wantShift() {
	x := t.Shift()
	t.want(isEngine(x.From))
	if x.On {
		t.want(isEngine(x.To) && x.To != x.From)
	} else {
		t.want(x.To == api.EngineNone)
	}
}

// tick moves the clock; what is expired then goes at the call's end.
func (t *turn) tick(n int64) api.Errno {
	switch {
	case n < 0:
		return api.ErrIdpClock
	case n == 0:
		return api.OK
	}
	now, e := t.until(n)
	if e != api.OK {
		return e
	}
	t.SetClock(now)
	return api.OK
}

func (p *Provider) compact() api.Errno {
	switch p.store.Compact() {
	case api.OK:
		return api.OK
	case api.ErrStoreFull:
		return api.ErrIdpFull
	}
	p.off = true
	return api.ErrIdpOff
}
