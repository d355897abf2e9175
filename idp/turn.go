package idp

import (
	"slices"

	"postern/api"
	"postern/ledger"
)

// turn is one call's: as long as it goes on, nobody else has the provider.
type turn struct {
	*ledger.Tx
	config api.Config
	draws  api.Draws
	now    int64
	bad    bool // it has met a row that no provider leaves
}

// told carries a call out, and tells its answer; beside an error nothing else. What it has changed stays, also where it tells an error of its own.
func told[R any](p *Provider, do func(*turn) (R, api.Errno)) (R, api.Errno) {
	p.mutex.Lock()
	defer p.mutex.Unlock()
	var none R
	if p.off {
		return none, api.ErrIdpOff
	}
	x := ledger.Begin(p.store)
	t := &turn{Tx: x, config: p.config, draws: p.draws, now: x.Clock()}
	r, e := do(t)
	if bad := p.end(t); bad != api.OK {
		e = bad
	}
	if e != api.OK {
		return none, e
	}
	return r, api.OK
}

// done carries out a call that tells nothing but its error.
func done(p *Provider, do func(*turn) api.Errno) api.Errno {
	_, e := told(p, func(t *turn) (struct{}, api.Errno) { return struct{}{}, do(t) })
	return e
}

// read tells what the ledger tells.
func read[R any](p *Provider, of func(*ledger.Tx) R) (R, api.Errno) {
	return told(p, func(t *turn) (R, api.Errno) { return of(t.Tx), api.OK })
}

// end lets what a call has changed become one batch; or none, if it has changed nothing or met what no provider leaves.
func (p *Provider) end(t *turn) api.Errno {
	changed := len(t.Changes()) > 0
	if changed {
		t.Expire()
	}
	switch {
	case t.isBad():
		return api.ErrIdpBad
	case !changed:
		return api.OK
	case t.Commit() != api.OK:
		p.off = true
		return api.ErrIdpOff
	}
	p.version++
	return api.OK
}

// want asks something that each provider's rows hold to.
func (t *turn) want(holds bool) { t.bad = t.bad || !holds }

func (t *turn) isBad() bool { return t.bad || t.Err() != api.OK }

// draw asks for draws: last of all, as what was drawn is gone.
func (t *turn) draw(n int) ([]api.ID, api.Errno) {
	if t.isBad() {
		return nil, api.ErrIdpBad
	}
	return ask(t.draws, n)
}

// begun tells the draw and the end of a life that begins now.
func (t *turn) begun(life int64) (api.ID, int64, api.Errno) {
	exp, e := t.until(life)
	if e != api.OK {
		return api.ID{}, 0, e
	}
	l, e := t.draw(1)
	if e != api.OK {
		return api.ID{}, 0, e
	}
	return l[0], exp, api.OK
}

// secret asks for the two draws that are a key's secret.
func (t *turn) secret() ([32]byte, api.Errno) {
	l, e := t.draw(2)
	if e != api.OK {
		return [32]byte{}, e
	}
	return [32]byte(slices.Concat(l[0][:], l[1][:])), api.OK
}

// ask tells n draws. Whose asking panics has told none.
func ask(draws api.Draws, n int) (l []api.ID, e api.Errno) {
	e = api.ErrIdpDraws
	defer func() { _ = recover() }()
	drawn, there := draws.Draws(n)
	if there && len(drawn) == n {
		l, e = drawn, api.OK
	}
	return l, e
}
