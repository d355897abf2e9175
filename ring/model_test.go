package ring_test

import (
	"math"
	"math/rand"
	"slices"
	"testing"

	"postern/api"
)

const top = math.MaxInt64

var s, u, v = [32]byte{1, 31: 7}, [32]byte{2}, [32]byte{31: 3}

func key(kid uint64, secret [32]byte, until int64) api.Key {
	return api.Key{Kid: kid, Secret: secret, Until: until}
}

func keys(next uint64, list ...api.Key) api.Ring { return api.Ring{Keys: list, Next: next} }

func alike(a, b api.Ring) bool { return a.Next == b.Next && slices.Equal(a.Keys, b.Keys) }

// fullRing tells a ring of n keys, the kids from 1 on, each one but the last until ten times its kid.
func fullRing(n int, next uint64) api.Ring {
	r := api.Ring{Next: next}
	for i := range n {
		kid := uint64(i + 1)
		r.Keys = append(r.Keys, key(kid, [32]byte{byte(i), 9: 1}, int64(10*kid)))
	}
	r.Keys[n-1].Until = 0
	return r
}

// wantedForm says by the chapter's words whether it is a ring.
func wantedForm(r api.Ring) bool {
	n := len(r.Keys)
	if n < 1 || n > 8 || r.Next > top {
		return false
	}
	for i, k := range r.Keys {
		switch {
		case k.Kid < 1,
			i > 0 && k.Kid <= r.Keys[i-1].Kid,
			i < n-1 && k.Until <= 0,
			i == n-1 && k.Until != 0,
			i == n-1 && r.Next <= k.Kid:
			return false
		}
	}
	return true
}

// The model of a ring: what there is, by its kid, and the current kid. It knows no list.
type model struct {
	next, current uint64
	secrets       map[uint64][32]byte
	untils        map[uint64]int64
}

func modelOf(r api.Ring) *model {
	m := &model{next: r.Next, secrets: map[uint64][32]byte{}, untils: map[uint64]int64{}}
	for _, k := range r.Keys {
		m.secrets[k.Kid], m.untils[k.Kid], m.current = k.Secret, k.Until, max(m.current, k.Kid)
	}
	return m
}

func (m *model) ring() api.Ring {
	r := api.Ring{Next: m.next}
	for kid, secret := range m.secrets {
		r.Keys = append(r.Keys, key(kid, secret, m.untils[kid]))
	}
	slices.SortFunc(r.Keys, func(a, b api.Key) int {
		if a.Kid < b.Kid {
			return -1
		}
		return 1
	})
	return r
}

func (m *model) begin(secret [32]byte) {
	m.current = m.next
	m.secrets[m.current], m.untils[m.current] = secret, 0
	m.next++
}

func (m *model) drop(kid uint64) {
	delete(m.secrets, kid)
	delete(m.untils, kid)
}

func (m *model) rotate(secret [32]byte, until int64) api.Errno {
	if until <= 0 {
		return api.ErrRingClock
	}
	if len(m.secrets) >= 8 || m.next >= top {
		return api.ErrRingFull
	}
	m.untils[m.current] = until
	m.begin(secret)
	return api.OK
}

func (m *model) prune(now int64) {
	for kid, until := range m.untils {
		if kid != m.current && until <= now {
			m.drop(kid)
		}
	}
}

func (m *model) distrust(kid uint64, secret [32]byte) api.Errno {
	if _, there := m.secrets[kid]; !there {
		return api.ErrRingKid
	}
	if kid == m.current && m.next >= top {
		return api.ErrRingFull
	}
	m.drop(kid)
	if kid == m.current {
		m.begin(secret)
	}
	return api.OK
}

func someSecret(r *rand.Rand) [32]byte {
	secret := [32]byte{}
	r.Read(secret[:])
	return secret
}

// someRing tells a ring: the greatest kids are near the end now and then.
func someRing(r *rand.Rand) api.Ring {
	next := uint64(1 + r.Intn(3))
	if r.Intn(4) == 0 {
		next = top - uint64(40+r.Intn(10))
	}
	a := api.Ring{}
	for range 1 + r.Intn(8) {
		a.Keys = append(a.Keys, key(next, someSecret(r), int64(1+r.Intn(100))))
		next += uint64(1 + r.Intn(4))
	}
	last := len(a.Keys) - 1
	a.Keys[last].Until = 0
	a.Next = a.Keys[last].Kid + uint64(1+r.Intn(4))
	if r.Intn(6) == 0 {
		a.Next = top - uint64(r.Intn(2))
	}
	return a
}

func wantRing(t *testing.T, what string, got, want api.Ring) {
	t.Helper()
	if !alike(got, want) {
		t.Errorf("%s: %v, want %v", what, got, want)
	}
}

// wantRefused: an error, and the zero ring beside it.
func wantRefused(t *testing.T, what string, got api.Ring, e, want api.Errno) {
	t.Helper()
	if e != want || len(got.Keys) != 0 || got.Next != 0 {
		t.Errorf("%s: %v, %d, want %d alone", what, got, e, want)
	}
}
