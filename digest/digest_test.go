package digest_test

import (
	"bytes"
	"crypto/sha256"
	"math/rand"
	"testing"

	"postern/api"
	"postern/digest"
)

func TestP4_1Examples(t *testing.T) {
	for _, c := range []struct{ row, want string }{
		{"", "e3b0c442 98fc1c14 9afbf4c8 996fb924 27ae41e4 649b934c a495991b 7852b855"},
		{"abc", "ba7816bf 8f01cfea 414140de 5dae2223 b00361a3 96177a9c b410ff61 f20015ad"},
		{"abcdbcdecdefdefgefghfghighijhijkijkljklmklmnlmnomnopnopq", "248d6a61 d20638b8 e5c02693 0c3e6039 a33ce459 64ff2167 f6ecedd4 19db06c1"},
	} {
		if d := digest.Sum([]byte(c.row)); !bytes.Equal(d[:], unhex(c.want)) {
			t.Errorf("Sum(%q) = %x, want %s", c.row, d, c.want)
		}
	}
	if digest.Sum(nil) != digest.Sum([]byte{}) {
		t.Error("Sum of nil is not that of an empty row")
	}
}

// TestP4_1Lengths: every length around the ends of the first blocks, where the padding fits and where it does not.
func TestP4_1Lengths(t *testing.T) {
	r := rand.New(rand.NewSource(1))
	for n := range 1100 {
		for _, b := range [][]byte{make([]byte, n), bytes.Repeat([]byte{0xff}, n), bytes.Repeat([]byte{0x80}, n), someBytes(r, n)} {
			if d, want := digest.Sum(b), sha256.Sum256(b); d != want {
				t.Errorf("Sum(%x) = %x, want %x", b, d, want)
			}
		}
	}
	for _, n := range []int{8191, 8192, 65535, 65536, 1<<20 - 9, 1<<20 - 8, 1 << 20, 1<<24 + 55} {
		b := someBytes(r, n)
		if d, want := digest.Sum(b), sha256.Sum256(b); d != want {
			t.Errorf("Sum of %d bytes = %x, want %x", n, d, want)
		}
	}
}

// TestP4_1EachBit: each bit of a row counts.
func TestP4_1EachBit(t *testing.T) {
	for _, n := range []int{1, 55, 56, 64, 128} {
		for bit := range 8 * n {
			b := make([]byte, n)
			b[bit/8] = 1 << (bit % 8)
			if d, want := digest.Sum(b), sha256.Sum256(b); d != want {
				t.Errorf("Sum(%x) = %x, want %x", b, d, want)
			}
		}
	}
}

// TestP4_1ManyBits: a row whose bits are more than 32 bits count.
func TestP4_1ManyBits(t *testing.T) {
	piece := bytes.Repeat([]byte("a row that is long "), 1<<16)
	h, m := digest.New(), sha256.New()
	for h.Len() < 1<<29+1 {
		h.Write(piece)
		m.Write(piece)
	}
	if d, want := h.Sum(), [32]byte(m.Sum(nil)); d != want {
		t.Errorf("Sum of %d bytes = %x, want %x", h.Len(), d, want)
	}
}

func wantHash(t *testing.T, what string, h *digest.Hash, taken []byte) {
	t.Helper()
	if d, want := h.Sum(), sha256.Sum256(taken); d != want || h.Len() != uint64(len(taken)) {
		t.Errorf("%s: Sum = %x, Len = %d, want %x, %d", what, d, h.Len(), want, len(taken))
	}
}

func TestP4_2Example(t *testing.T) {
	h := digest.New()
	wantHash(t, "a new one", h, nil)
	h.Write([]byte("a"))
	h.Write(nil)
	h.Write([]byte{})
	wantHash(t, "a", h, []byte("a"))
	h.Write([]byte("bc"))
	wantHash(t, "a, bc", h, []byte("abc"))
	if h.Len() != 3 {
		t.Errorf("Len = %d", h.Len())
	}
}

// TestP4_2TwoPieces: a row is cut wherever it can be, and asked about at the cut or not.
func TestP4_2TwoPieces(t *testing.T) {
	row := someBytes(rand.New(rand.NewSource(2)), 200)
	for n := range len(row) + 1 {
		for cut := range n + 1 {
			h := digest.New()
			h.Write(row[:cut])
			if n%2 == 0 {
				wantHash(t, "the first piece", h, row[:cut])
			}
			h.Write(row[cut:n])
			wantHash(t, "two pieces", h, row[:n])
		}
	}
}

// TestP4_2Pieces: many pieces of any length, asked about at any time and twice.
func TestP4_2Pieces(t *testing.T) {
	r := rand.New(rand.NewSource(3))
	for range 1000 {
		h, taken := digest.New(), []byte{}
		longest := 1 + r.Intn(300)
		for range r.Intn(30) {
			b := someBytes(r, r.Intn(longest))
			h.Write(b)
			taken = append(taken, b...)
			for range r.Intn(3) {
				wantHash(t, "some pieces", h, taken)
			}
		}
		wantHash(t, "all pieces", h, taken)
		wantHash(t, "asked again", h, taken)
	}
}

func TestP4_2OneByOne(t *testing.T) {
	row := someBytes(rand.New(rand.NewSource(4)), 1000)
	h := digest.New()
	for i, c := range row {
		h.Write([]byte{c})
		wantHash(t, "byte by byte", h, row[:i+1])
	}
}

// TestP4_6Sum: Sum of a row is that of a Hash that has taken it.
func TestP4_6Sum(t *testing.T) {
	r := rand.New(rand.NewSource(5))
	for n := range 300 {
		b := someBytes(r, n)
		h := digest.New()
		h.Write(b)
		if h.Sum() != digest.Sum(b) {
			t.Errorf("Sum(%x) is not that of a Hash", b)
		}
	}
}

// TestP4_7HashMemory: what is handed in is neither changed nor kept, what is told is the caller's own.
func TestP4_7HashMemory(t *testing.T) {
	for n := range 200 {
		room := bytes.Repeat([]byte("room"), 60)
		kept := bytes.Clone(room)
		h := digest.New()
		h.Write(room[:n])
		digest.Sum(room[:n])
		if !bytes.Equal(room, kept) {
			t.Fatalf("%q became %q", kept, room)
		}
		clear(room)
		d := h.Sum()
		clear(d[:])
		wantHash(t, "behind a change of what was handed in", h, kept[:n])
		copy(room, "another row")
		if digest.Sum(room[:n]) != sha256.Sum256(room[:n]) {
			t.Errorf("Sum of what was there before")
		}
		h.Write(room[:n])
		wantHash(t, "the same memory once more", h, append(kept[:n:n], room[:n]...))
	}
}

// TestP4_7HashesApart: what one Hash takes is taken by none of the others, not even by a copy.
func TestP4_7HashesApart(t *testing.T) {
	for n := range 130 {
		ahead := bytes.Repeat([]byte{'x'}, n)
		a, b := digest.New(), digest.New()
		a.Write(ahead)
		wantHash(t, "one that was not asked", b, nil)
		b.Write([]byte("b"))
		saved := *a
		a.Write([]byte("one"))
		saved.Write([]byte("two, which is longer"))
		wantHash(t, "a", a, append(ahead[:n:n], "one"...))
		wantHash(t, "b", b, []byte("b"))
		wantHash(t, "a copy", &saved, append(ahead[:n:n], "two, which is longer"...))
		wantHash(t, "a new one", digest.New(), nil)
	}
}

// TestP4_7Ends: no call panics, whatever is handed in.
func TestP4_7Ends(t *testing.T) {
	rows := [][]byte{nil, {}, {0}, make([]byte, 63), make([]byte, 64), make([]byte, 65), make([]byte, 1<<16)}
	for _, a := range rows {
		digest.Sum(a)
		digest.New().Write(a)
		for _, b := range rows {
			digest.Mac(a, b)
			digest.Same(a, b)
		}
		for _, n := range []int{-1 << 63, -1, 0, 1, 2, api.MaxRounds + 1, 1<<63 - 1} {
			digest.Pass(api.ID{}, string(a), n)
		}
	}
}
