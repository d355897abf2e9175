package disk_test

import (
	"math"
	"math/rand"
	"slices"
	"testing"

	"postern/api"
	"postern/disk"
)

// The model of a disk, by the chapter's words: files in a list, as texts, which can't be changed. It knows the torn write by its number from the beginning on.
type model struct {
	files  []held
	room   int
	off    bool
	writes uint64
	torn   uint64
	keep   int
}

type held struct{ name, text string }

func (m *model) at(name string) int {
	return slices.IndexFunc(m.files, func(f held) bool { return f.name == name })
}

func (m *model) bytes() int {
	n := 0
	for _, f := range m.files {
		n += len(f.text)
	}
	return n
}

func mayBe(name string) bool {
	for _, c := range []byte(name) {
		if !slices.Contains([]byte("0123456789abcdefghijklmnopqrstuvwxyz-._"), c) {
			return false
		}
	}
	return name != "" && len(name) < 65
}

// refuses tells ErrDiskOff, ErrDiskName; and ErrDiskNone, if there is no file of the first name.
func (m *model) refuses(names ...string) api.Errno {
	switch {
	case m.off:
		return api.ErrDiskOff
	case slices.ContainsFunc(names, func(s string) bool { return !mayBe(s) }):
		return api.ErrDiskName
	case m.at(names[0]) < 0:
		return api.ErrDiskNone
	}
	return api.OK
}

// write does a write, or tears it.
func (m *model) write(whole func(), part func()) api.Errno {
	m.writes++
	if m.writes != m.torn {
		whole()
		return api.OK
	}
	if m.keep > 0 {
		part()
	}
	m.off = true
	return api.ErrDiskOff
}

func (m *model) lay(name, text string) {
	i := m.at(name)
	if i < 0 {
		m.files = append(m.files, held{name, text})
		return
	}
	m.files[i].text += text
}

func (m *model) append(name, text string) api.Errno {
	e := m.refuses(name)
	if e != api.OK && e != api.ErrDiskNone {
		return e
	}
	if e == api.ErrDiskNone && len(m.files) == 64 || m.bytes()+len(text) > m.room {
		return api.ErrDiskFull
	}
	return m.write(func() { m.lay(name, text) }, func() { m.lay(name, text[:min(m.keep, len(text))]) })
}

func (m *model) cut(name string, size int) api.Errno {
	if e := m.refuses(name); e != api.OK {
		return e
	}
	f := &m.files[m.at(name)]
	if size < 0 || size > len(f.text) {
		return api.ErrDiskCut
	}
	do := func() { f.text = f.text[:size] }
	return m.write(do, do)
}

func (m *model) rename(from, to string) api.Errno {
	if e := m.refuses(from, to); e != api.OK {
		return e
	}
	do := func() {
		if from == to {
			return
		}
		m.files = slices.DeleteFunc(m.files, func(f held) bool { return f.name == to })
		m.files[m.at(from)].name = to
	}
	return m.write(do, do)
}

func (m *model) remove(name string) api.Errno {
	if e := m.refuses(name); e != api.OK {
		return e
	}
	do := func() { m.files = slices.DeleteFunc(m.files, func(f held) bool { return f.name == name }) }
	return m.write(do, do)
}

func (m *model) arm(n, keep int) {
	m.torn, m.keep = 0, keep
	if n > 0 {
		m.torn = m.writes + uint64(n)
	}
}

func (m *model) list() []api.File {
	var l []api.File
	for _, f := range m.files {
		l = append(l, file(f.name, f.text))
	}
	slices.SortFunc(l, func(a, b api.File) int { return slices.Compare([]byte(a.Name), []byte(b.Name)) })
	return l
}

// walk is a disk and its model, that go the same way by chance.
type walk struct {
	t     *testing.T
	r     *rand.Rand
	names []string
	d     *disk.Disk
	m     model
}

func (w *walk) name() string { return w.names[w.r.Intn(len(w.names))] }

func (w *walk) number() int {
	if w.r.Intn(8) == 0 {
		l := someNumbers()
		return l[w.r.Intn(len(l))]
	}
	return w.r.Intn(9) - 1
}

func (w *walk) step() {
	w.t.Helper()
	var got, want api.Errno
	switch w.r.Intn(11) {
	case 0, 1, 2, 3:
		name, b := w.name(), make([]byte, w.r.Intn(7))
		w.r.Read(b)
		got, want = w.d.Append(name, b), w.m.append(name, string(b))
	case 4, 5:
		name, size := w.name(), w.number()
		got, want = w.d.Cut(name, size), w.m.cut(name, size)
	case 6:
		from, to := w.name(), w.name()
		got, want = w.d.Rename(from, to), w.m.rename(from, to)
	case 7:
		name := w.name()
		got, want = w.d.Remove(name), w.m.remove(name)
	case 8:
		n, keep := w.number(), w.number()
		w.d.Arm(n, keep)
		w.m.arm(n, keep)
	case 9:
		w.d.On()
		w.m.off = false
	case 10:
		w.again()
	}
	if got != want {
		w.t.Fatalf("%d, not %d", got, want)
	}
	w.look()
}

// again goes on with a disk that is loaded of the files.
func (w *walk) again() {
	if w.r.Intn(8) > 0 {
		return
	}
	d, e := disk.Load(w.d.Files(), w.d.Room())
	if e != api.OK {
		w.t.Fatalf("Load of what Files has told: %d", e)
	}
	w.d, w.m = d, model{files: w.m.files, room: w.m.room}
}

// look holds all that the disk tells against the model.
func (w *walk) look() {
	w.t.Helper()
	list := w.m.list()
	if got, want := text(w.d.Files()), text(list); got != want {
		w.t.Fatalf("Files: %q, not %q", got, want)
	}
	if w.d.Off() != w.m.off || w.d.Writes() != int(w.m.writes) || w.d.Room() != w.m.room {
		w.t.Fatalf("off %v, %d writes, room %d, not %v, %d, %d", w.d.Off(), w.d.Writes(), w.d.Room(), w.m.off, w.m.writes, w.m.room)
	}
	name := w.name()
	want, e := "", w.m.refuses(name)
	if e == api.OK {
		want = w.m.files[w.m.at(name)].text
	}
	wantRead(w.t, w.d, name, want, e)
	if names, e := w.d.Names(); w.m.off && (e != api.ErrDiskOff || len(names) != 0) {
		w.t.Fatalf("Names with the power off: %q, %d", names, e)
	}
	if !w.m.off {
		var names []string
		for _, f := range list {
			names = append(names, f.Name)
		}
		wantNames(w.t, w.d, names...)
	}
	if w.t.Failed() {
		w.t.FailNow()
	}
}

func walks(t *testing.T, seed int64, times, steps int, names []string, room func(r *rand.Rand) int) {
	t.Helper()
	r := rand.New(rand.NewSource(seed))
	for range times {
		n := room(r)
		w := &walk{t: t, r: r, names: names, d: made(t, n), m: model{room: n}}
		for range steps {
			w.step()
		}
	}
}

// TestP9_2Model to TestP9_5Model: walks of many calls, of few names in a small room, with names that may not be, and of so many names that the files are as many as may be.
func TestP9_2Model(t *testing.T) {
	walks(t, 2, 300, 200, []string{"a", "b", "c"}, func(r *rand.Rand) int { return 1 + r.Intn(40) })
}

func TestP9_3Model(t *testing.T) {
	walks(t, 3, 200, 200, append(badNames(), goodNames()...), func(r *rand.Rand) int { return 1 + r.Intn(100) })
}

func TestP9_4Model(t *testing.T) {
	var names []string
	for _, f := range manyFiles(99) {
		names = append(names, f.Name)
	}
	walks(t, 4, 10, 4000, names, func(r *rand.Rand) int { return 1 + r.Intn(600) })
}

// TestP9_5Model: the power goes at each write of a row of calls, and each keep of it.
func TestP9_5Model(t *testing.T) {
	for n := range 14 {
		for _, keep := range []int{math.MinInt, -1, 0, 1, 2, 3, 4, math.MaxInt} {
			w := &walk{t: t, r: rand.New(rand.NewSource(5)), names: []string{"a", "b", "c", "d"}, d: made(t, 20), m: model{room: 20}}
			w.d.Arm(n, keep)
			w.m.arm(n, keep)
			for i := range 14 {
				w.row(i)
			}
			w.d.On()
			w.m.off = false
			w.look()
		}
	}
}

// row does one call of a row of calls in which files come, grow, shrink, take each other's places and go.
func (w *walk) row(i int) {
	w.t.Helper()
	var got, want api.Errno
	switch i {
	case 0, 1, 6, 9:
		name, b := []string{"a", "b"}[i%2], "abc"[:3-i%4]
		got, want = w.d.Append(name, []byte(b)), w.m.append(name, b)
	case 2, 7, 10:
		got, want = w.d.Cut("a", 1), w.m.cut("a", 1)
	case 3, 8, 12:
		got, want = w.d.Rename("a", "c"), w.m.rename("a", "c")
	case 4, 11:
		got, want = w.d.Rename("b", "a"), w.m.rename("b", "a")
	case 5, 13:
		got, want = w.d.Remove("c"), w.m.remove("c")
	}
	if got != want {
		w.t.Fatalf("call %d: %d, not %d", i, got, want)
	}
	w.look()
}
