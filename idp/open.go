package idp

import (
	"postern/api"
	"postern/disk"
	"postern/revoke"
	"postern/ring"
	"postern/store"
)

// The room of a provider's disk, and of its store: enough for all rows that the limits allow.
const (
	room     = 1 << 25
	pairs    = 1 << 13
	weight   = 1 << 23
	logBytes = 1 << 20
)

func openStore(d *disk.Disk, c api.Config) (*store.Store, api.Errno) {
	switch {
	case d.Off():
		return nil, api.ErrIdpOff
	case Check(c) != api.OK || d.Room() < room:
		return nil, api.ErrIdpConfig
	}
	s, e := store.Open(d, api.Limits{Pairs: pairs, Weight: weight, Log: logBytes})
	switch e {
	case api.OK:
		return s, api.OK
	case api.ErrStoreDamage:
		return nil, api.ErrIdpBad
	}
	return nil, api.ErrIdpOff
}

// open asks whether the ledger is that of this configuration; an empty one becomes it.
func (t *turn) open() api.Errno {
	t.want(t.Rows())
	c, there := t.Config()
	if !there {
		return t.lay()
	}
	t.want(ring.Check(t.Ring()) == api.OK && revoke.Check(t.Revoked()) == api.OK)
	if c != t.config {
		return api.ErrIdpConfig
	}
	return api.OK
}

// lay lays down a provider's first rows.
func (t *turn) lay() api.Errno {
	for range t.Range(nil) {
		t.want(false)
	}
	secret, e := t.secret()
	if e != api.OK {
		return e
	}
	t.SetConfig(t.config)
	t.SetNext(1)
	t.SetShift(api.Shift{From: t.config.Engine})
	t.SetRing(ring.First(secret))
	return api.OK
}
