package record_test

import (
	"bytes"
	"hash/crc32"
	"math/rand"
	"testing"

	"postern/api"
	"postern/record"
)

// sumByBits is P3.5, word by word.
func sumByBits(b []byte) uint32 {
	n := uint32(0xffffffff)
	for _, c := range b {
		n = n&0xffffff00 | uint32(byte(n)^c)
		for range 8 {
			dropped := n % 2
			n /= 2
			if dropped == 1 {
				n ^= 0xedb88320
			}
		}
	}
	return ^n
}

func TestP3_5Sum(t *testing.T) {
	if n := record.Sum(nil); n != 0 {
		t.Errorf("Sum of none = %08x", n)
	}
	if n := record.Sum([]byte("123456789")); n != 0xcbf43926 {
		t.Errorf("Sum of 123456789 = %08x", n)
	}
	for _, b := range bodies() {
		if n, want := record.Sum(b), sumByBits(b); n != want || n != crc32.ChecksumIEEE(b) {
			t.Errorf("Sum(%x) = %08x, want %08x", b, n, want)
		}
	}
	for i := range 1 << 16 {
		b := []byte{byte(i >> 8), byte(i)}
		if n, want := record.Sum(b), sumByBits(b); n != want {
			t.Errorf("Sum(%x) = %08x, want %08x", b, n, want)
		}
	}
	long := someBytes(rand.New(rand.NewSource(7)), 1<<20)
	if n, want := record.Sum(long), crc32.ChecksumIEEE(long); n != want {
		t.Errorf("Sum of a long row = %08x, want %08x", n, want)
	}
}

func TestP3_6Frame(t *testing.T) {
	for _, body := range bodies() {
		if f, e := record.Frame(body); !bytes.Equal(f, frameOf(body)) || e != api.OK || len(f) != len(body)+13 {
			t.Errorf("Frame(%x) = %x, %d, want %x", body, f, e, frameOf(body))
		}
	}
	for _, n := range []int{255, 256, 65535, 65536, api.MaxRow, api.MaxRow + 1, api.MaxFrame - 1, api.MaxFrame} {
		body := bytes.Repeat([]byte("body."), n/5+1)[:n]
		if f, e := record.Frame(body); !bytes.Equal(f, frameOf(body)) || e != api.OK {
			t.Errorf("Frame of %d bytes: %d, %d", n, len(f), e)
		}
	}
	for _, n := range []int{api.MaxFrame + 1, api.MaxFrame + 256, 1 << 25} {
		if f, e := record.Frame(make([]byte, n)); len(f) != 0 || e != api.ErrRecordLong {
			t.Errorf("Frame of %d bytes: %d, %d", n, len(f), e)
		}
	}
}

func wantUnframe(t *testing.T, what string, b []byte, want api.Errno) {
	t.Helper()
	if body, n, e := record.Unframe(b); e != want || want != api.OK && (len(body) != 0 || n != 0) {
		t.Errorf("%s: Unframe = %d bytes, %d, %d, want %d", what, len(body), n, e, want)
	}
}

func TestP3_7Unframe(t *testing.T) {
	wantUnframe(t, "none", nil, api.ErrRecordShort)
	wantUnframe(t, "none", []byte{}, api.ErrRecordShort)
	wantUnframe(t, "a mark", []byte{0xc9}, api.ErrRecordShort)
	for c := range 256 {
		if c != 0xc9 {
			wantUnframe(t, "another mark", []byte{byte(c)}, api.ErrRecordForm)
			wantUnframe(t, "another mark", append([]byte{byte(c)}, frameOf(nil)[1:]...), api.ErrRecordForm)
		}
	}
	for _, count := range []uint32{0, 1, 2, 1 << 20, 1<<24 - 1, 1 << 24} {
		head := headOf(count)
		wantUnframe(t, "less than a head", head[:8], api.ErrRecordShort)
		wantUnframe(t, "a head alone", head, api.ErrRecordShort)
	}
	for _, count := range []uint32{1<<24 + 1, 1 << 25, 1 << 31, 1<<32 - 13, 1<<32 - 1} {
		head := headOf(count)
		wantUnframe(t, "less than a head", head[:8], api.ErrRecordShort)
		wantUnframe(t, "a long body", head, api.ErrRecordLong)
		wantUnframe(t, "a long body", append(head, make([]byte, 100)...), api.ErrRecordLong)
		head[8] ^= 1
		wantUnframe(t, "a long body behind another sum", head, api.ErrRecordSum)
	}
	frame := frameOf([]byte("body"))
	frame[5] ^= 1
	wantUnframe(t, "another sum of a head alone", frame[:9], api.ErrRecordSum)
	frame[5] ^= 1
	frame[9] ^= 1
	wantUnframe(t, "another body", frame, api.ErrRecordSum)
	wantUnframe(t, "another body, a byte short", frame[:16], api.ErrRecordShort)
	wantUnframe(t, "another body, and more", append(frame, 0xc9, 0), api.ErrRecordSum)
}

// TestP3_7Examples: the chapter's bytes.
func TestP3_7Examples(t *testing.T) {
	frame, e := record.Frame(nil)
	if e != api.OK || len(frame) != 13 || !bytes.Equal(frame[:5], unhex("c9 00 00 00 00")) || !bytes.Equal(frame[9:], unhex("00 00 00 00")) {
		t.Fatalf("Frame of none = %x, %d", frame, e)
	}
	wantUnframe(t, "12 of 13", frame[:12], api.ErrRecordShort)
	frame[1] = 1
	wantUnframe(t, "the second byte 1", frame, api.ErrRecordSum)
}

func TestP3_7Longest(t *testing.T) {
	body := bytes.Repeat([]byte("body"), api.MaxFrame/4)
	frame := frameOf(body)
	if b, n, e := record.Unframe(append(frame, 1)); !bytes.Equal(b, body) || n != api.MaxFrame+13 || e != api.OK {
		t.Errorf("the longest body: %d bytes, %d, %d", len(b), n, e)
	}
	wantUnframe(t, "a byte short", frame[:len(frame)-1], api.ErrRecordShort)
	frame[len(frame)-1] ^= 0x80
	wantUnframe(t, "another sum", frame, api.ErrRecordSum)
	wantUnframe(t, "a body too long", frameOf(append(body, 0)), api.ErrRecordLong)
}

// TestP3_7Model holds frames that were bent in some way against the model.
func TestP3_7Model(t *testing.T) {
	rnd := rand.New(rand.NewSource(8))
	seen := map[api.Errno]int{}
	for range 50000 {
		b := append(frameOf(someBytes(rnd, rnd.Intn(20))), someBytes(rnd, rnd.Intn(4))...)
		switch rnd.Intn(4) {
		case 0:
			b = b[:rnd.Intn(len(b)+1)]
		case 1:
			b[rnd.Intn(len(b))] = byte(rnd.Intn(256))
		case 2:
			copy(b, headOf(uint32(rnd.Uint64())>>rnd.Intn(32)))
		}
		want, size, f := wantedUnframe(b)
		seen[f]++
		if body, n, e := record.Unframe(b); !bytes.Equal(body, want) || n != size || e != f {
			t.Fatalf("Unframe(%x) = %x, %d, %d, want %x, %d, %d", b, body, n, e, want, size, f)
		}
	}
	for _, e := range []api.Errno{api.OK, api.ErrRecordShort, api.ErrRecordLong, api.ErrRecordSum, api.ErrRecordForm} {
		if seen[e] < 100 {
			t.Errorf("Unframe told %d only %d times", e, seen[e])
		}
	}
}

// TestP3_8Frames: a frame is told whatever stands behind it; a beginning of it is short; one byte changed is refused.
func TestP3_8Frames(t *testing.T) {
	for i, body := range bodies() {
		frame, _ := record.Frame(body)
		for _, behind := range []string{"", "\x00", "\xc9", string(frame), "\xc9\x00\x00\x00\x00"} {
			if b, n, e := record.Unframe(append(bytes.Clone(frame), behind...)); !bytes.Equal(b, body) || n != len(frame) || e != api.OK {
				t.Errorf("Unframe of a frame of %x = %x, %d, %d", body, b, n, e)
			}
		}
		for n := range frame {
			wantUnframe(t, "a beginning", frame[:n], api.ErrRecordShort)
		}
		if i%7 == 0 {
			wantEachByteSeen(t, frame)
		}
	}
}

func wantEachByteSeen(t *testing.T, frame []byte) {
	t.Helper()
	for i := range frame {
		want := api.ErrRecordSum
		if i == 0 {
			want = api.ErrRecordForm
		}
		for change := 1; change < 256; change++ {
			bent := bytes.Clone(frame)
			bent[i] ^= byte(change)
			wantUnframe(t, "a byte changed", bent, want)
		}
	}
}

func TestP3_8FramesInARow(t *testing.T) {
	var file []byte
	for _, body := range bodies() {
		frame, _ := record.Frame(body)
		file = append(file, frame...)
	}
	for _, body := range bodies() {
		b, n, e := record.Unframe(file)
		if !bytes.Equal(b, body) || e != api.OK {
			t.Fatalf("a frame in a row: %x, %d, want %x", b, e, body)
		}
		file = file[n:]
	}
	if len(file) != 0 {
		t.Errorf("%d bytes are left", len(file))
	}
}

func xor(l ...[]byte) []byte {
	out := make([]byte, len(l[0]))
	for _, b := range l {
		for i, c := range b {
			out[i] ^= c
		}
	}
	return out
}

func TestP3_8Sums(t *testing.T) {
	rnd := rand.New(rand.NewSource(9))
	for range 5000 {
		n := rnd.Intn(50)
		a, b, c := someBytes(rnd, n), someBytes(rnd, n), someBytes(rnd, n)
		if record.Sum(xor(a, b, c)) != record.Sum(a)^record.Sum(b)^record.Sum(c) {
			t.Errorf("the Sums of %x, %x, %x", a, b, c)
		}
		if n < 4 {
			continue
		}
		other := bytes.Clone(a)
		at := rnd.Intn(n - 3)
		copy(other[at:at+4], someBytes(rnd, 4))
		if !bytes.Equal(a, other) && record.Sum(a) == record.Sum(other) {
			t.Errorf("%x and %x have one Sum", a, other)
		}
	}
}

// TestP3_9FrameMemory: bodies and frames are new, what is handed in is as it was.
func TestP3_9FrameMemory(t *testing.T) {
	for _, body := range bodies() {
		room := append(bytes.Clone(body), "room behind it"...)
		kept := bytes.Clone(room)
		frame, _ := record.Frame(room[:len(body)])
		record.Sum(room[:len(body)])
		if !bytes.Equal(room, kept) {
			t.Fatalf("%x became %x", kept, room)
		}
		clear(room)
		if !bytes.Equal(frame, frameOf(body)) {
			t.Fatalf("a frame of %x went with its body", body)
		}
		inner, _, _ := record.Unframe(frame)
		again, _, _ := record.Unframe(frame)
		clear(inner[:cap(inner)])
		if !bytes.Equal(frame, frameOf(body)) || !bytes.Equal(again, body) {
			t.Fatalf("a body %x went with another one", body)
		}
		clear(frame)
		if !bytes.Equal(again, body) {
			t.Fatalf("a body %x went with its frame", body)
		}
	}
}

// TestP3_9SameMemory: lists that are handed in again with other contents are other lists (R6).
func TestP3_9SameMemory(t *testing.T) {
	b := frameOf([]byte("one"))
	wantUnframe(t, "one", b, api.OK)
	copy(b, frameOf([]byte("two")))
	if body, _, e := record.Unframe(b); string(body) != "two" || e != api.OK {
		t.Errorf("Unframe = %q, %d", body, e)
	}
	if record.Sum(b[9:12]) != sumByBits([]byte("two")) {
		t.Error("Sum of what was there before")
	}
	if n := record.From(b).Num(1); n != 0xc9 {
		t.Errorf("From = %x", n)
	}
	b[0] = 7
	if n := record.From(b).Num(1); n != 7 {
		t.Errorf("From = %x", n)
	}
}
