package digest_test

import (
	"bytes"
	"crypto/sha256"
	"math/rand"
	"slices"
	"testing"

	"postern/digest"
)

func wantMac(t *testing.T, key, b []byte) {
	t.Helper()
	if d, want := digest.Mac(key, b), wantedMac(key, b); d != want {
		t.Errorf("Mac(%x, %x) = %x, want %x", key, b, d, want)
	}
}

func TestP4_3Examples(t *testing.T) {
	for _, c := range []struct {
		key  []byte
		row  string
		want string
	}{
		{[]byte("Jefe"), "what do ya want for nothing?", "5bdcc146 bf60754e 6a042426 089575c7 5a003f08 9d273983 9dec58b9 64ec3843"},
		{bytes.Repeat([]byte{0x0b}, 20), "Hi There", "b0344c61 d8db3853 5ca8afce af0bf12b 881dc200 c9833da7 26e9376c 2e32cff7"},
		{bytes.Repeat([]byte{0xaa}, 131), "Test Using Larger Than Block-Size Key - Hash Key First", "60e43159 1ee0b67f 0d8a26aa cbf5b77f 8e0bc621 3728c514 0546040f 0ee37f54"},
	} {
		if d := digest.Mac(c.key, []byte(c.row)); !bytes.Equal(d[:], unhex(c.want)) {
			t.Errorf("Mac(%x, %q) = %x, want %s", c.key, c.row, d, c.want)
		}
	}
}

// TestP4_3Lengths: keys of up to a block and of more, rows of any length.
func TestP4_3Lengths(t *testing.T) {
	r := rand.New(rand.NewSource(6))
	for n := range 200 {
		for _, size := range []int{0, 1, 31, 32, 55, 56, 63, 64, 65, 119, 120, 300} {
			wantMac(t, someBytes(r, n), someBytes(r, size))
		}
		wantMac(t, make([]byte, n), nil)
		wantMac(t, bytes.Repeat([]byte{0x36}, n), someBytes(r, n))
		wantMac(t, bytes.Repeat([]byte{0x5c}, n), someBytes(r, n))
	}
	wantMac(t, nil, nil)
	wantMac(t, []byte{}, []byte{})
	wantMac(t, someBytes(r, 1<<20), someBytes(r, 1<<20))
}

// TestP4_4Lengths: rows of every length up to some pieces; each byte counts, and each bit of it.
func TestP4_4Lengths(t *testing.T) {
	r := rand.New(rand.NewSource(7))
	for n := range 140 {
		a := someBytes(r, n)
		b := bytes.Clone(a)
		if !digest.Same(a, b) || !digest.Same(a, a) {
			t.Errorf("Same(%x, itself) is false", a)
		}
		for bit := range 8 * n {
			b[bit/8] ^= 1 << (bit % 8)
			if digest.Same(a, b) || digest.Same(b, a) {
				t.Errorf("Same(%x, %x) is true", a, b)
			}
			b[bit/8] ^= 1 << (bit % 8)
		}
	}
}

// TestP4_4Beginnings: a beginning is another row, even if bytes 00 alone go on behind it.
func TestP4_4Beginnings(t *testing.T) {
	for _, row := range [][]byte{make([]byte, 140), bytes.Repeat([]byte{7}, 140)} {
		for n := range row {
			for m := range row {
				if got := digest.Same(row[:n], row[:m]); got != (n == m) {
					t.Errorf("Same of %d and %d bytes %d: %v", n, m, row[0], got)
				}
			}
		}
	}
	if !digest.Same(nil, nil) || !digest.Same(nil, []byte{}) || !digest.Same([]byte{}, nil) {
		t.Error("nil is not an empty row")
	}
	if digest.Same(nil, []byte{0}) || digest.Same([]byte{0}, nil) {
		t.Error("none is a byte 00")
	}
}

func TestP4_4Long(t *testing.T) {
	a := someBytes(rand.New(rand.NewSource(8)), 1<<20+5)
	b := bytes.Clone(a)
	if !digest.Same(a, b) {
		t.Error("Same of a long row and itself is false")
	}
	for _, i := range []int{0, 1 << 10, 1<<20 - 1, 1 << 20, 1<<20 + 4} {
		b[i] ^= 0x80
		if digest.Same(a, b) {
			t.Errorf("Same of long rows with unlike bytes at %d is true", i)
		}
		b[i] ^= 0x80
	}
}

// TestP4_6Keys: bytes 00 behind a key of at most a block, and a long key's digest.
func TestP4_6Keys(t *testing.T) {
	r := rand.New(rand.NewSource(9))
	row := []byte("a row")
	for n := range 65 {
		key := someBytes(r, n)
		want := digest.Mac(key, row)
		for m := n; m <= 64; m++ {
			if digest.Mac(append(bytes.Clone(key), make([]byte, m-n)...), row) != want {
				t.Errorf("key %x and %d bytes 00: another Mac", key, m-n)
			}
		}
		if digest.Mac(append(bytes.Clone(key), make([]byte, 65-n)...), row) == want {
			t.Errorf("key %x and bytes 00 up to 65: the same Mac", key)
		}
	}
	for n := 65; n < 200; n++ {
		key := someBytes(r, n)
		short := sha256.Sum256(key)
		if digest.Mac(key, row) != digest.Mac(short[:], row) {
			t.Errorf("a key of %d bytes: not the Mac of its digest", n)
		}
	}
	key := someBytes(r, 64)
	short := sha256.Sum256(key)
	if digest.Mac(key, row) == digest.Mac(short[:], row) {
		t.Error("a key of 64 bytes: the Mac of its digest")
	}
}

// TestP4_7MacMemory: keys and rows are neither changed nor kept, nor is what stands behind them.
func TestP4_7MacMemory(t *testing.T) {
	for _, n := range []int{0, 1, 31, 32, 33, 63, 64, 65, 100} {
		room := bytes.Repeat([]byte("key!"), 40)
		other := bytes.Repeat([]byte("row."), 40)
		keptRoom, keptOther := bytes.Clone(room), bytes.Clone(other)
		want := wantedMac(room[:n], other[:n])
		if digest.Mac(room[:n], other[:n]) != want || digest.Same(room[:n], other[:n]) != (n == 0) {
			t.Errorf("a key and a row of %d bytes", n)
		}
		if !slices.Equal(room, keptRoom) || !slices.Equal(other, keptOther) {
			t.Fatalf("%q and %q became %q and %q", keptRoom, keptOther, room, other)
		}
		copy(room, other)
		wantMac(t, room[:n], other[:n])
		wantMac(t, room[:n], room[:n])
		if !digest.Same(room[:n], other[:n]) {
			t.Errorf("Same of what was there before")
		}
	}
}
