package seal_test

import (
	"math/rand"
	"strings"
	"testing"

	"postern/api"
	"postern/ring"
	"postern/seal"
)

// TestP7_4There: what is minted is opened as just these claims, by every ring that has a key of this kid and secret.
func TestP7_4There(t *testing.T) {
	r := rand.New(rand.NewSource(4))
	for range 1000 {
		c := drawClaims(r)
		k := pick(r, manyKeys().Keys...)
		s, e := seal.Mint(key(k.Kid, k.Secret, pick(r, 0, 1, -1, r.Int63())), c)
		got, f := seal.Open(manyKeys(), s)
		if e != api.OK || f != api.OK || !alike(got, c) {
			t.Fatalf("Open(Mint(%v, %v)) = %v, %d, %d", k, c, got, e, f)
		}
		if got, f := seal.Open(keys(k.Kid+1, key(k.Kid, k.Secret, 0)), s); f != api.OK || !alike(got, c) {
			t.Fatalf("Open of it by that key alone: %v, %d", got, f)
		}
	}
}

// TestP7_4Ring: so it is while a ring is turned, as long as the key is there.
func TestP7_4Ring(t *testing.T) {
	keys := ring.First(none)
	s, _ := seal.Mint(keys.Keys[0], shop())
	for _, secret := range [][32]byte{plum, peach, none} {
		keys, _ = ring.Rotate(keys, secret, 50)
		wantError(t, "rotated", keys, s, api.OK)
	}
	wantError(t, "pruned ahead of its time", ring.Prune(keys, 49), s, api.OK)
	wantError(t, "pruned", ring.Prune(keys, 50), s, api.ErrSealKid)
	keys, _ = ring.Distrust(keys, 2, plum)
	wantError(t, "another one distrusted", keys, s, api.OK)
	keys, _ = ring.Distrust(keys, 1, plum)
	wantError(t, "distrusted", keys, s, api.ErrSealKid)
}

// wantBack: what is opened is, byte by byte, what minting its claims with that key makes.
func wantBack(t *testing.T, r api.Ring, s string) bool {
	t.Helper()
	c, e := seal.Open(r, s)
	if e != api.OK {
		return false
	}
	kid, _, _, _ := seal.Parts(s)
	k, _ := ring.Find(r, kid)
	if back, f := seal.Mint(k, c); f != api.OK || back != s {
		t.Errorf("Open takes %q, but its claims make %q, %d", s, back, f)
	}
	return true
}

// drawTexts tells texts, one a call: tokens, and such as look like one, rightly signed or not.
func drawTexts(r *rand.Rand) func() string {
	heads, bodies := wrongHeads(), wrongBodies()
	return func() string {
		head := pick(r, shopHead, shopHead, shopHead, headOf(2), headOf(3), pick(r, heads...))
		body := pick(r, shopBody, bodyOf(drawClaims(r)), pick(r, bodies...))
		s := signed(pick(r, none, none, plum), head, changed(r, body))
		if r.Intn(3) == 0 {
			s = changed(r, s)
		}
		return s
	}
}

// changed is a text with some bytes changed, left out or put in; or just that text.
func changed(r *rand.Rand, s string) string {
	for range r.Intn(3) {
		at := r.Intn(len(s) + 1)
		c := string([]byte{pick(r, ' ', '"', '\\', '.', '=', '1', '0', 'a', 'A', 'Q', 'g', 'w', '_', '-', '{', '}', ',', ':', 0, 127, 255, byte(r.Intn(256)))})
		behind := s[at:]
		if r.Intn(2) == 0 && behind != "" {
			behind = behind[1:]
		}
		s = s[:at] + pick(r, c, c, "") + behind
	}
	return s
}

func TestP7_4Back(t *testing.T) {
	r := rand.New(rand.NewSource(5))
	two := keys(9, key(1, none, 5), key(2, plum, 0))
	taken, draw := 0, drawTexts(r)
	for range 30000 {
		s := draw()
		wantOpen(t, "drawn", two, s)
		if wantBack(t, two, s) {
			taken++
		}
	}
	if taken < 1000 || taken > 29000 {
		t.Errorf("of 30000 texts %d were taken: too few or too many to show something", taken)
	}
}

// TestP7_4Byte: a token with one byte as another one, one byte less or one more is refused.
func TestP7_4Byte(t *testing.T) {
	two := keys(9, key(1, none, 5), key(2, plum, 0))
	for _, k := range two.Keys {
		s, _ := seal.Mint(k, shop())
		for at := range len(s) + 1 {
			for c := range 256 {
				letter := string([]byte{byte(c)})
				wantRefused(t, two, s[:at]+letter+s[at:])
				if at < len(s) && s[at] != byte(c) {
					wantRefused(t, two, s[:at]+letter+s[at+1:])
				}
			}
			if at < len(s) {
				wantRefused(t, two, s[:at]+s[at+1:])
				wantRefused(t, two, s[:at])
			}
		}
	}
}

func wantRefused(t *testing.T, r api.Ring, s string) {
	t.Helper()
	if c, e := seal.Open(r, s); e == api.OK || !alike(c, api.Claims{}) {
		t.Errorf("Open(%q) = %v, %d", s, c, e)
	}
}

// TestP7_4Other: the same claims and the same key, but another text.
func TestP7_4Other(t *testing.T) {
	l := strings.Split(shopToken(), ".")
	for _, s := range []string{
		shopToken() + " ", " " + shopToken(), shopToken() + "\n", shopToken() + "\x00", "Bearer " + shopToken(), shopToken() + "=", shopToken() + "A", l[0] + "=." + l[1] + "." + l[2], l[0] + "." + l[1] + "=." + l[2],
		l[0] + "." + l[1] + "." + l[2][:42] + "J", strings.ToLower(shopToken()), strings.ReplaceAll(shopToken(), "-", "+"), l[1] + "." + l[0] + "." + l[2], l[0] + "." + l[2] + "." + l[1],
	} {
		wantRefused(t, oneKey(), s)
	}
	// Parts of two tokens, one beside the other.
	other := strings.Split(signed(none, shopHead, strings.Replace(shopBody, "ann", "bob", 1)), ".")
	for mix := 1; mix < 7; mix++ {
		parts := strings.Split(shopToken(), ".")
		for at := range parts {
			if mix>>at&1 == 1 {
				parts[at] = other[at]
			}
		}
		s := strings.Join(parts, ".")
		if s != shopToken() && s != strings.Join(other, ".") {
			wantRefused(t, oneKey(), s)
		}
	}
}
