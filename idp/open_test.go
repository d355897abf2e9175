package idp_test

import (
	"math"
	"strings"
	"testing"

	"postern/api"
	"postern/disk"
	"postern/idp"
	"postern/ledger"
)

// changed tells the config with one thing of it another one.
func changed(change func(c *api.Config)) api.Config {
	c := config(sealed)
	change(&c)
	return c
}

// badConfigs tells configurations that may not be.
func badConfigs() map[string]api.Config {
	m := map[string]api.Config{"the zero one": {}}
	for _, s := range []string{"", "a\n", "a\x7f", "a\"", "a\\", "\xff", strings.Repeat("é", 32) + "a", long(65)} {
		m["Issuer "+s] = changed(func(c *api.Config) { c.Issuer = s })
	}
	for _, n := range []int64{0, -1, 1<<40 + 1, last, first} {
		m["Access "+lineOf(n)] = changed(func(c *api.Config) { c.Access = n })
		m["Refresh "+lineOf(n)] = changed(func(c *api.Config) { c.Refresh = n })
		m["Code "+lineOf(n)] = changed(func(c *api.Config) { c.Code = n })
		m["Session "+lineOf(n)] = changed(func(c *api.Config) { c.Session = n })
	}
	for _, n := range []int{0, -1, api.MaxRounds + 1, math.MaxInt, math.MinInt, 1<<32 + 1} {
		m["Rounds "+lineOf(n)] = changed(func(c *api.Config) { c.Rounds = n })
	}
	for _, n := range []int{0, 3, -1, 257, 1<<32 + 1, math.MaxInt, math.MinInt} {
		m["Engine "+lineOf(n)] = changed(func(c *api.Config) { c.Engine = n })
	}
	for _, l := range []api.Lock{{}, {Half: 0, Limit: math.Float64bits(3)}, {Half: -1, Limit: math.Float64bits(3)}, {Half: 10}, {Half: 10, Limit: math.Float64bits(0.5)},
		{Half: 10, Limit: math.Float64bits(math.Inf(1))}, {Half: 10, Limit: math.Float64bits(math.NaN())}, {Half: 10, Limit: math.Float64bits(-3)}} {
		m["Lock "+lineOf(l)] = changed(func(c *api.Config) { c.Lock = l })
	}
	return m
}

// goodConfigs tells some that may be, to the ends of what each field may be.
func goodConfigs() map[string]api.Config {
	m := map[string]api.Config{"sealed": config(sealed), "held": config(held)}
	for _, s := range []string{"a", " ", "é b", strings.Repeat("é", 32), long(64), "https://iss"} {
		m["Issuer "+s] = changed(func(c *api.Config) { c.Issuer = s })
	}
	for _, n := range []int64{1, 2, 1<<40 - 1, 1 << 40} {
		m["Access "+lineOf(n)] = changed(func(c *api.Config) { c.Access = n })
		m["Refresh "+lineOf(n)] = changed(func(c *api.Config) { c.Refresh = n })
		m["Code "+lineOf(n)] = changed(func(c *api.Config) { c.Code = n })
		m["Session "+lineOf(n)] = changed(func(c *api.Config) { c.Session = n })
	}
	for _, n := range []int{1, 2, api.MaxRounds} {
		m["Rounds "+lineOf(n)] = changed(func(c *api.Config) { c.Rounds = n })
	}
	for _, l := range []api.Lock{{Half: 1, Limit: math.Float64bits(1)}, {Half: last, Limit: math.Float64bits(math.MaxFloat64)}} {
		m["Lock "+lineOf(l)] = changed(func(c *api.Config) { c.Lock = l })
	}
	return m
}

func TestP17_5Check(t *testing.T) {
	for what, c := range goodConfigs() {
		wantErrno(t, what, idp.Check(c), api.OK)
	}
	for what, c := range badConfigs() {
		wantErrno(t, what, idp.Check(c), api.ErrIdpConfig)
	}
}

func newDisk(t *testing.T, room int) *disk.Disk {
	t.Helper()
	d, e := disk.New(room)
	wantErrno(t, "New", e, api.OK)
	return d
}

// wantShut asks that Open of a disk is refused, without draws, and that nothing is changed.
func wantShut(t *testing.T, what string, d *disk.Disk, c api.Config, want api.Errno) {
	t.Helper()
	h := &hand{}
	before, writes := lineOf(d.Files()), d.Writes()
	p, e := idp.Open(d, c, h)
	if p != nil || e != want || len(h.asked) > 0 {
		t.Errorf("%s: %v, %d, not %d; draws: %d", what, p != nil, e, want, h.asked)
	}
	if lineOf(d.Files()) != before || d.Writes() != writes {
		t.Errorf("%s: the disk has changed", what)
	}
}

func TestP17_6Config(t *testing.T) {
	for what, c := range badConfigs() {
		wantShut(t, what, newDisk(t, room), c, api.ErrIdpConfig)
	}
	for what, c := range goodConfigs() {
		p, e := idp.Open(newDisk(t, room), c, &hand{})
		if p == nil || e != api.OK {
			t.Errorf("%s: %d", what, e)
		}
	}
	for _, size := range []int{1, 1 << 20, room - 1} {
		wantShut(t, "the room", newDisk(t, size), config(held), api.ErrIdpConfig)
	}
	for _, size := range []int{room, room + 1, api.MaxRoom} {
		_, e := idp.Open(newDisk(t, size), config(held), &hand{})
		wantErrno(t, "the room", e, api.OK)
	}
}

// TestP17_6Off: a disk that is off goes ahead of all; a store that can't be opened because of its disk is told like that.
func TestP17_6Off(t *testing.T) {
	for what, c := range badConfigs() {
		for _, size := range []int{room - 1, room} {
			d := newDisk(t, size)
			d.Arm(1, 0)
			d.Append("x", nil)
			wantShut(t, what, d, c, api.ErrIdpOff)
			wantShut(t, what, d, config(sealed), api.ErrIdpOff)
		}
	}
	// The log's torn end is cut off by Open.
	w := begun(t, sealed)
	w.d.Arm(1, 5)
	wantErrno(t, "Tick", w.p.Tick(1), api.ErrIdpOff)
	w.d.On()
	w.d.Arm(1, 0)
	wantShutOff(t, "the cut", w)
	w.open()
	wantSame(t, "the clock", w.state().Clock, 0)
	// The first batch.
	for keep := range 60 {
		v := &world{t: t, d: newDisk(t, room), h: &hand{}, c: config(held)}
		v.d.Arm(1, keep*5)
		wantShutOff(t, "the first batch", v)
		v.open()
		wantSame(t, "opened", v.state(), api.State{Next: 1, Shift: api.Shift{From: held}})
	}
}

func wantShutOff(t *testing.T, what string, w *world) {
	t.Helper()
	p, e := idp.Open(w.d, w.c, w.h)
	if p != nil || e != api.ErrIdpOff {
		t.Errorf("%s: %v, %d", what, p != nil, e)
	}
	w.d.On()
}

// TestP17_6Begins: an empty disk gets one batch: the configuration, Next, the shift, the ring of one key.
func TestP17_6Begins(t *testing.T) {
	for _, kind := range kinds() {
		w := &world{t: t, d: newDisk(t, room), h: &hand{}, c: config(kind)}
		w.drawing("Open", 2, w.open)
		var secret [32]byte
		for i := range secret {
			secret[i] = 1 + byte(i/16)
		}
		wantSame(t, "State", w.state(), api.State{Next: 1, Shift: api.Shift{From: kind}})
		wantSame(t, "Ring", w.ring(), api.Ring{Keys: []api.Key{{Kid: 1, Secret: secret}}, Next: 2})
		wantSame(t, "Revoked", w.revoked(), []api.Revoked{})
		wantSame(t, "Held", w.held(), []api.Held{})
		wantSame(t, "Version", w.version(), 1)
		wantSame(t, "Writes", w.d.Writes(), 1)
		x := w.ledger()
		wantSame(t, "keys", differing(nil, pairsOf(x)), []string{configKey, ringKey, nextKey, shiftKey})
		c, there := x.Config()
		if !there || c != w.c {
			t.Errorf("the configuration: %v, %v", c, there)
		}
	}
}

// TestP17_6Again: what a disk holds is opened as it stands, without draws or a batch.
func TestP17_6Again(t *testing.T) {
	for _, kind := range kinds() {
		w := begun(t, kind)
		_, _, i := w.issued()
		wantErrno(t, "Begin", w.p.Begin(sealed+held-kind), api.OK)
		all := w.all()
		writes := w.d.Writes()
		w.drawing("Open", 0, w.open)
		wantSame(t, "opened", w.all(), all)
		wantSame(t, "Version", w.version(), 0)
		wantSame(t, "Writes", w.d.Writes(), writes)
		w.taken("the token", true, i.Access)
		w.tick(1)
		wantSame(t, "Version", w.version(), 1)
		for what, c := range goodConfigs() {
			c.Engine = kind
			if c != w.c {
				wantShut(t, what, w.d, c, api.ErrIdpConfig)
			}
		}
		wantShut(t, "the other engine", w.d, config(sealed+held-kind), api.ErrIdpConfig)
		// Below this one other draws are never asked for, whatever they would answer.
		w.h.other = func(int) ([]api.ID, bool) { panic("asked") }
		w.open()
	}
}

// TestP17_6Draws: the first key's draws.
func TestP17_6Draws(t *testing.T) {
	for what, answer := range badDraws(2) {
		d := newDisk(t, room)
		h := &hand{other: answer}
		p, e := idp.Open(d, config(sealed), h)
		if p != nil || e != api.ErrIdpDraws || len(d.Files()) > 0 || d.Writes() > 0 {
			t.Errorf("%s: %v, %d, %v", what, p != nil, e, d.Files())
		}
		wantSame(t, what, h.asked, []int{2})
	}
	p, e := idp.Open(newDisk(t, room), config(sealed), nil)
	if p != nil || e != api.ErrIdpDraws {
		t.Errorf("no draws at all: %v, %d", p != nil, e)
	}
}

// TestP17_6Bad: what no provider leaves, ahead of another configuration and of the draws.
func TestP17_6Bad(t *testing.T) {
	shut := func(what string, w *world) {
		t.Helper()
		wantShut(t, what, w.d, w.c, api.ErrIdpBad)
		wantShut(t, what+", another configuration", w.d, changed(func(c *api.Config) { c.Rounds = 9 }), api.ErrIdpBad)
	}
	for what, files := range map[string][]api.File{
		"a snapshot of no store":    {{Name: "snap", Bytes: []byte("x")}},
		"a log of no store":         {{Name: "log.0", Bytes: []byte("no frame but long enough for one")}},
		"a snapshot without bytes":  {{Name: "snap"}},
		"a snapshot and some files": {{Name: "a"}, {Name: "snap", Bytes: []byte{0}}},
	} {
		d, e := disk.Load(files, room)
		wantErrno(t, "Load", e, api.OK)
		shut(what, &world{t: t, d: d, c: config(held)})
	}
	for what, spoil := range map[string]func(x *ledger.Tx){
		"a pair that is no row":                    func(x *ledger.Tx) { x.Put([]byte("x"), nil) },
		"a user that is no row":                    func(x *ledger.Tx) { x.Put([]byte("U"), []byte("x")) },
		"a clock that is no row":                   func(x *ledger.Tx) { x.Put([]byte(clockKey), []byte("x")) },
		"a held token that is none":                func(x *ledger.Tx) { x.Put([]byte(heldKey(1)), nil) },
		"a ring that is no row":                    func(x *ledger.Tx) { x.Put([]byte(ringKey), nil) },
		"no ring":                                  func(x *ledger.Tx) { x.Delete([]byte(ringKey)) },
		"a ring without keys":                      func(x *ledger.Tx) { x.SetRing(api.Ring{Next: 2}) },
		"a ring without a current":                 func(x *ledger.Tx) { x.SetRing(api.Ring{Keys: []api.Key{{Kid: 1, Until: 5}}, Next: 2}) },
		"a ring whose kids fall":                   func(x *ledger.Tx) { x.SetRing(api.Ring{Keys: []api.Key{{Kid: 2, Until: 5}, {Kid: 1}}, Next: 3}) },
		"a list twice":                             func(x *ledger.Tx) { x.SetRevoked([]api.Revoked{{Grant: 1, Exp: 5}, {Grant: 1, Exp: 5}}) },
		"a list that falls":                        func(x *ledger.Tx) { x.SetRevoked([]api.Revoked{{Grant: 2, Exp: 5}, {Grant: 1, Exp: 5}}) },
		"a list with a grant and IDs":              func(x *ledger.Tx) { x.SetRevoked([]api.Revoked{{Whole: true, Grant: 1}, {Grant: 1, ID: draw(1)}}) },
		"a configuration that is none, of a field": func(x *ledger.Tx) { x.Put([]byte(configKey), []byte("x")) },
	} {
		w := begun(t, held)
		w.rows(spoil)
		shut(what, w)
	}
	for what, rows := range map[string]func(x *ledger.Tx){
		"a user alone":     func(x *ledger.Tx) { x.PutUser(api.User{Name: "ann"}) },
		"a clock alone":    func(x *ledger.Tx) { x.SetClock(0) },
		"a ring alone":     func(x *ledger.Tx) { x.SetRing(api.Ring{Keys: []api.Key{{Kid: 1}}, Next: 2}) },
		"no row at all":    func(x *ledger.Tx) { x.Put([]byte("c"), nil) },
		"an unknown row":   func(x *ledger.Tx) { x.Put([]byte("z"), []byte("z")) },
		"a bad ring alone": func(x *ledger.Tx) { x.SetRing(api.Ring{}) },
	} {
		w := &world{t: t, d: newDisk(t, room), c: config(held)}
		w.rows(rows)
		shut(what, w)
	}
	w := begun(t, held)
	w.rows(func(x *ledger.Tx) { x.Delete([]byte(configKey)) })
	shut("no configuration", w)
}

// TestP17_6Files: other files are let alone; so a disk with some is empty still.
func TestP17_6Files(t *testing.T) {
	d, e := disk.Load([]api.File{{Name: "other", Bytes: []byte("x")}, {Name: "log.x"}}, room)
	wantErrno(t, "Load", e, api.OK)
	w := &world{t: t, d: d, h: &hand{}, c: config(sealed)}
	w.open()
	w.addUser("ann")
	b, e := d.Read("other")
	if string(b) != "x" || e != api.OK {
		t.Errorf("the other file: %q, %d", b, e)
	}
}
