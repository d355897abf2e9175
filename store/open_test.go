package store_test

import (
	"math"
	"strings"
	"testing"

	"postern/api"
	"postern/store"
)

func TestP11_1Limits(t *testing.T) {
	d := made(t, roomy)
	for _, l := range []api.Limits{
		{Pairs: 1, Weight: 1, Log: 0}, {Pairs: 65536, Weight: 67108864, Log: 67108864}, {Pairs: 1, Weight: 67108864, Log: 0}, {Pairs: 65536, Weight: 1, Log: 1},
	} {
		wantPairs(t, "limits", opened(t, "limits", d, l), "")
	}
	for _, l := range []api.Limits{
		{}, {Pairs: 0, Weight: 1}, {Pairs: -1, Weight: 1}, {Pairs: 65537, Weight: 1}, {Pairs: math.MaxInt, Weight: 1}, {Pairs: math.MinInt, Weight: 1},
		{Pairs: 1, Weight: 0}, {Pairs: 1, Weight: -1}, {Pairs: 1, Weight: 67108865}, {Pairs: 1, Weight: math.MaxInt}, {Pairs: 1, Weight: math.MinInt},
		{Pairs: 1, Weight: 1, Log: -1}, {Pairs: 1, Weight: 1, Log: 67108865}, {Pairs: 1, Weight: 1, Log: math.MaxInt}, {Pairs: 1, Weight: 1, Log: math.MinInt},
	} {
		wantNone(t, "limits", d, l, api.ErrStoreLimits)
	}
	wantFiles(t, "limits", d)
	wantWrites(t, "limits", d, 0)
}

// TestP11_1Order: limits are told ahead of the power, the power ahead of damage, each ahead of any write.
func TestP11_1Order(t *testing.T) {
	d := made(t, roomy, file("snap", "\x00"), file("log.0", "\x00"), file("snap.new", ""), file("other", ""))
	wantNone(t, "on", d, api.Limits{}, api.ErrStoreLimits)
	wantNone(t, "on", d, wide, api.ErrStoreDamage)
	wantWrites(t, "on", d, 0)
	d.Arm(1, 0)
	wantErrno(t, "torn", d.Remove("other"), api.ErrDiskOff)
	wantNone(t, "off", d, api.Limits{}, api.ErrStoreLimits)
	wantNone(t, "off", d, wide, api.ErrDiskOff)
	wantWrites(t, "off", d, 1)
}

// TestP11_1New: of no files comes a store of no pairs, and no file.
func TestP11_1New(t *testing.T) {
	d := made(t, 1)
	for range 2 {
		s := opened(t, "new", d, wide)
		wantPairs(t, "new", s, "")
		wantLog(t, "new", s, 0, 0)
		wantErrno(t, "new", s.Err(), api.OK)
	}
	wantFiles(t, "new", d)
	wantWrites(t, "new", d, 0)
}

// TestP11_1Files: what the files tell.
func TestP11_1Files(t *testing.T) {
	for _, c := range []struct {
		snap, log string
		number    uint64
		want      string
	}{
		{"", logOf("a=1"), 0, "a=1"},
		{"", logOf("a=1", "b= a=2", "-a -x c=3"), 0, "b= c=3"},
		{"", logOf("", "a=", ""), 0, "a="},
		{snapOf(0, ""), "", 0, ""},
		{snapOf(0, "a=1"), logOf("a=2"), 0, "a=2"},
		{snapOf(7, "a=1 aa=2 b= b\x00=x"), "", 7, "a=1 aa=2 b= b\x00=x"},
		{snapOf(7, "\x00=1 \xff=2 \xff\xff=3"), logOf("-\xff", "\xff=4"), 7, "\x00=1 \xff=4 \xff\xff=3"},
		{snapOf(last, "a=1"), logOf("b=2"), last, "a=1 b=2"},
		{snapOf(last-1, ""), logOf("b=2 b=3 -b b=4"), last - 1, "b=4"},
	} {
		var files []api.File
		if c.snap != "" {
			files = append(files, file("snap", c.snap))
		}
		if c.log != "" {
			files = append(files, file("log."+decimal(c.number), c.log))
		}
		d := made(t, roomy, files...)
		s := opened(t, c.want, d, wide)
		wantPairs(t, c.want, s, c.want)
		wantLog(t, c.want, s, c.number, len(c.log))
		wantFiles(t, c.want, d, files...)
		wantWrites(t, c.want, d, 0)
	}
}

// badSnaps are files that are no snapshots, each by one fault alone.
func badSnaps() map[string]string {
	whole, one := snapOf(1, "a=1 b=2"), pairFrames(batch("a=1"))
	return map[string]string{
		"no bytes": "", "a mark alone": "\xc9", "no mark": "\x00", "text": "snap", "a byte short": whole[:len(whole)-1], "a frame short": whole[:len(whole)-23],
		"a byte more": whole + "\x00", "a mark more": whole + "\xc9", "an empty frame more": whole + frameOf(""), "a pair more": whole + pairFrames(batch("c=3")), "a head alone": headOf(1, 2), "a head more": whole + headOf(1, 0),
		"one pair fewer than told": headOf(1, 2) + one, "many fewer": headOf(1, 1<<31) + one, "one more than told": headOf(1, 0) + one,
		"no head": one, "an empty head": frameOf(""), "a short head": frameOf(laid8(1) + laid4(0)[:3]), "a long head": frameOf(laid8(1) + laid4(0) + "\x00"), "a number alone": frameOf(laid8(1)),
		"a number behind the last": headOf(last+1, 0), "the greatest number": headOf(1<<64-1, 0), "the top bit": headOf(1<<63, 0),
		"an empty key": headOf(1, 1) + pairFrames([]api.Change{{Value: []byte("1")}}), "a long key": headOf(1, 1) + pairFrames([]api.Change{{Key: []byte(strings.Repeat("k", 257))}}),
		"a long value":   headOf(1, 1) + pairFrames([]api.Change{{Key: []byte("k"), Value: make([]byte, 262145)}}),
		"a key alone":    headOf(1, 1) + frameOf(row("a")),
		"no pair":        headOf(1, 1) + frameOf(""),
		"a row too many": headOf(1, 1) + frameOf(row("a")+row("1")+row("")), "a byte too many": headOf(1, 1) + frameOf(row("a")+row("1")+"\x00"), "a value too short": headOf(1, 1) + frameOf(row("a")+laid4(2)+"1"),
		"keys that fall": snapOf(1, "b=1 a=2"), "a key twice": snapOf(1, "a=1 a=1"), "a key twice, told once": headOf(1, 1) + one + one, "a key again": snapOf(1, "a=1 b=2 a=1"), "a beginning behind": snapOf(1, "aa=1 a=2"),
	}
}

func TestP11_1Snap(t *testing.T) {
	for what, text := range badSnaps() {
		for _, log := range []string{"log.0", "log.1", "log.3"} {
			d := made(t, 1<<22, file("snap", text), file(log, "\xc9"), file("snap.new", "x"))
			wantNone(t, what, d, wide, api.ErrStoreDamage)
			wantFiles(t, what, d, file("snap", text), file(log, "\xc9"), file("snap.new", "x"))
			wantWrites(t, what, d, 0)
		}
	}
}

// TestP11_1Longest: the longest key and the longest value stand, in a snapshot and in a log.
func TestP11_1Longest(t *testing.T) {
	key, value := strings.Repeat("k", 256), strings.Repeat("v", 262144)
	l := []api.Change{{Key: []byte(key), Value: []byte(value)}}
	for _, files := range [][]api.File{{file("snap", headOf(0, 1)+pairFrames(l))}, {file("log.0", frameOf(formOf(l)))}} {
		s := opened(t, "longest", made(t, roomy, files...), wide)
		wantPairs(t, "longest", s, key+"="+value)
	}
}

// TestP11_1Fit: pairs that just fit, and one, or one byte, more.
func TestP11_1Fit(t *testing.T) {
	for _, files := range [][]api.File{{file("snap", snapOf(0, "a=1 bc= d=23"))}, {file("log.0", logOf("a=1 bc= d=23"))}, {file("snap", snapOf(0, "a=1")), file("log.0", logOf("d=23 bc="))}} {
		weight := 16*3 + 2 + 2 + 3
		s := opened(t, "just", made(t, roomy, files...), api.Limits{Pairs: 3, Weight: weight})
		wantPairs(t, "just", s, "a=1 bc= d=23")
		wantNone(t, "a pair more", made(t, roomy, files...), api.Limits{Pairs: 2, Weight: weight}, api.ErrStoreDamage)
		wantNone(t, "a byte more", made(t, roomy, files...), api.Limits{Pairs: 3, Weight: weight - 1}, api.ErrStoreDamage)
	}
	var l []api.Change
	for n := range 65537 {
		l = append(l, api.Change{Key: []byte{byte(n >> 16), byte(n >> 8), byte(n)}})
	}
	top := api.Limits{Pairs: 65536, Weight: 67108864}
	s := opened(t, "most", made(t, 1<<22, file("snap", headOf(0, 65536)+pairFrames(l[:65536]))), top)
	if s.Len() != 65536 || s.Weight() != 65536*19 {
		t.Errorf("most: %d, %d", s.Len(), s.Weight())
	}
	wantNone(t, "more than most", made(t, 1<<22, file("snap", headOf(0, 65537)+pairFrames(l))), top, api.ErrStoreDamage)
}

// badForms are bytes that are no batch's form, each by one fault alone.
func badForms() map[string]string {
	many := laid4(16385) + strings.Repeat("\x01"+row("a")+row(""), 16385)
	return map[string]string{
		"no bytes": "", "three bytes": "\x00\x00\x00", "a byte more": laid4(0) + "\x00", "a change fewer": laid4(1), "a change more": laid4(1) + "\x00" + row("a") + row("") + "\x00" + row("b") + row(""),
		"many more": laid4(1<<31) + "\x00" + row("a") + row(""), "too many": many, "a byte behind": formOf(batch("a=1")) + "\x00", "a byte short": formOf(batch("a=12"))[:14],
		"a flag that is none": laid4(1) + "\x02" + row("a") + row(""), "a flag alone": laid4(1) + "\x00", "a key alone": laid4(1) + "\x00" + row("a"),
		"an empty key": laid4(1) + "\x00" + row("") + row("1"), "an empty key gone": laid4(1) + "\x01" + row("") + row(""), "a long key": laid4(1) + "\x00" + row(strings.Repeat("k", 257)) + row(""),
		"a long value": laid4(1) + "\x00" + row("k") + row(strings.Repeat("v", 262145)), "a value beside gone": laid4(1) + "\x01" + row("a") + row("1"), "a second one bad": laid4(2) + "\x00" + row("a") + row("1") + "\x01" + row("a") + row("1"),
	}
}

// TestP11_1Forms: one record of a log that is no form, ahead of others, between them, behind them.
func TestP11_1Forms(t *testing.T) {
	for what, form := range badForms() {
		for _, text := range []string{frameOf(form), frameOf(form) + logOf("a=1"), logOf("a=1") + frameOf(form), logOf("a=1", "b=2") + frameOf(form) + logOf("-a", "c=3")} {
			files := []api.File{file("log.5", text), file("snap", snapOf(5, "a=1")), file("log.4", "x"), file("snap.new", "x")}
			d := made(t, 1<<22, files...)
			wantNone(t, what, d, wide, api.ErrStoreDamage)
			wantFiles(t, what, d, files...)
			wantWrites(t, what, d, 0)
		}
	}
	most := laid4(16384) + strings.Repeat("\x01"+row("a")+row(""), 16384)
	wantPairs(t, "as many as may be", opened(t, "many", made(t, 1<<22, file("log.0", frameOf(most))), wide), "")
}

// TestP11_1Wal: damage of the log is the store's; what a torn write has left is cut off, and stays so whatever comes behind it.
func TestP11_1Wal(t *testing.T) {
	bent := []byte(logOf("a=1", "b=2"))
	bent[12] ^= 1
	for _, text := range []string{"\x00", "log", logOf("a=1") + "x", string(bent)} {
		d := made(t, roomy, file("log.0", text), file("log.1", ""))
		wantNone(t, "damaged", d, wide, api.ErrStoreDamage)
		wantFiles(t, "damaged", d, file("log.0", text), file("log.1", ""))
	}
	torn := logOf("a=1") + "\xc9\x00"
	d := made(t, roomy, file("log.0", torn))
	s := opened(t, "torn", d, wide)
	wantPairs(t, "torn", s, "a=1")
	wantLog(t, "torn", s, 0, len(torn)-2)
	wantFiles(t, "torn", d, file("log.0", logOf("a=1")))
	d = made(t, roomy, file("log.0", logOf("a=1", "b=2")+"\xc9\x00"), file("snap.new", ""))
	wantNone(t, "cut, no fit", d, api.Limits{Pairs: 1, Weight: 1000}, api.ErrStoreDamage)
	wantFiles(t, "cut, no fit", d, file("log.0", logOf("a=1", "b=2")), file("snap.new", ""))
	wantWrites(t, "cut, no fit", d, 1)
	d = made(t, roomy, file("log.0", torn), file("snap.new", ""))
	d.Arm(1, 0)
	wantNone(t, "torn in Open", d, wide, api.ErrDiskOff)
	wantFiles(t, "torn in Open", d, file("log.0", torn), file("snap.new", ""))
	d = made(t, roomy, file("log.0", torn), file("snap", "x"))
	wantNone(t, "snap ahead of the log", d, wide, api.ErrStoreDamage)
	wantWrites(t, "snap ahead of the log", d, 0)
}

// TestP11_1Each: the pairs behind each record must fit, not those behind the last one alone; in a record those in between need not.
func TestP11_1Each(t *testing.T) {
	two := api.Limits{Pairs: 2, Weight: 40}
	wantNone(t, "pairs", made(t, roomy, file("log.0", logOf("a=1 b=2 c=3", "-a"))), two, api.ErrStoreDamage)
	wantNone(t, "weight", made(t, roomy, file("log.0", logOf("a=1", "b="+strings.Repeat("x", 7), "-b"))), two, api.ErrStoreDamage)
	wantPairs(t, "weight", opened(t, "just", made(t, roomy, file("log.0", logOf("a=1", "b="+strings.Repeat("x", 5)))), two), "a=1 b=xxxxx")
	s := opened(t, "in between", made(t, roomy, file("log.0", logOf("a=1 b=2 c="+strings.Repeat("x", 99)+" -a -c", "d=4"))), two)
	wantPairs(t, "in between", s, "b=2 d=4")
	wantNone(t, "the snapshot, too", made(t, roomy, file("snap", snapOf(0, "a= b= c=")), file("log.0", logOf("-a"))), two, api.ErrStoreDamage)
}

// strangers are names that are let alone, though some look like those of the store's files.
func strangers() []string {
	return []string{
		"log", "log.", "log.07", "log.00", "log.x", "log.1x", "log.x1", "log.-1", "log.0x1", "log.1_0", "log.1.", "log.1.0", "log..1", "log-1", "log1", "xlog.1", "1", "other", "snap.", "snap.new.", "snap.new.new", "snap.old", "snap2", "new", "snap.ne",
		"log.4611686018427387905", "log.4611686018427387910", "log.9223372036854775807", "log.18446744073709551615", "log.18446744073709551616", "log.99999999999999999999", "log.04611686018427387904", "log." + strings.Repeat("1", 60),
	}
}

// TestP11_1Others: leftovers are removed, each by a write; others are let alone.
func TestP11_1Others(t *testing.T) {
	var files []api.File
	for _, name := range strangers() {
		files = append(files, file(name, "of "+name))
	}
	kept := append(files, file("log.7", logOf("b=2")), file("snap", snapOf(7, "a=1")))
	left := []string{"log.0", "log.1", "log.10", "log.70", "log.6", "log.8", "log.4611686018427387903", "log.4611686018427387904", "snap.new"}
	all := append([]api.File{}, kept...)
	for _, name := range left {
		all = append(all, file(name, "left"))
	}
	d := made(t, roomy, all...)
	s := opened(t, "others", d, wide)
	wantPairs(t, "others", s, "a=1 b=2")
	wantFiles(t, "others", d, kept...)
	wantWrites(t, "others", d, len(left))
	opened(t, "again", d, wide)
	wantWrites(t, "again", d, len(left))
}

// TestP11_1NoSnap: without a snapshot the log is log.0, and any other is a leftover.
func TestP11_1NoSnap(t *testing.T) {
	d := made(t, roomy, file("log.1", logOf("a=1")), file("snap.new", snapOf(1, "a=1")))
	s := opened(t, "no snapshot", d, wide)
	wantPairs(t, "no snapshot", s, "")
	wantLog(t, "no snapshot", s, 0, 0)
	wantFiles(t, "no snapshot", d)
	d = made(t, roomy, file("log.0", logOf("a=0")), file("log.1", logOf("a=1")), file("snap", snapOf(1, "")))
	s = opened(t, "a snapshot", d, wide)
	wantPairs(t, "a snapshot", s, "a=1")
	wantFiles(t, "a snapshot", d, file("log.1", logOf("a=1")), file("snap", snapOf(1, "")))
}

// TestP11_1Removed: leftovers go in the order of their names; where the power goes, those ahead are gone.
func TestP11_1Removed(t *testing.T) {
	left := []string{"log.0", "log.1", "log.10", "log.2", "log.4611686018427387904", "snap.new"}
	for n := range left {
		for _, keep := range []int{0, 1} {
			files := []api.File{file("log.3", logOf("a=1")), file("snap", snapOf(3, ""))}
			for _, name := range left {
				files = append(files, file(name, "left"))
			}
			d := made(t, roomy, files...)
			d.Arm(n+1, keep)
			if s, e := store.Open(d, wide); s != nil || e != api.ErrDiskOff {
				t.Errorf("%d: %d", n, e)
			}
			wantFiles(t, "torn", d, append(files[:2:2], files[2+n+keep:]...)...)
			wantWrites(t, "torn", d, n+1)
			d.On()
			wantPairs(t, "on", opened(t, "on", d, wide), "a=1")
			wantFiles(t, "on", d, files[:2]...)
		}
	}
}
