package store_test

import (
	"encoding/binary"
	"maps"
	"strings"

	"postern/api"
	"postern/disk"
)

// model is a store by the chapter's words, on a disk of its own: the writes that the chapter names are done there.
type model struct {
	d       *disk.Disk
	limits  api.Limits
	pairs   map[string]string
	number  uint64
	logSize int
	err     api.Errno
}

func (m *model) log() string { return "log." + decimal(m.number) }

func (m *model) fit(pairs map[string]string) bool {
	weight := 0
	for key, value := range pairs {
		weight += len(key) + len(value) + 16
	}
	return len(pairs) <= m.limits.Pairs && weight <= m.limits.Weight
}

// cursor takes fields from the front of a text; bad stays.
type cursor struct {
	text string
	bad  bool
}

func (c *cursor) take(n int) string {
	if n > len(c.text) || c.bad {
		c.bad = true
		return strings.Repeat("\x00", n)
	}
	s := c.text[:n]
	c.text = c.text[n:]
	return s
}

func (c *cursor) number() int { return int(binary.BigEndian.Uint32([]byte(c.take(4)))) }

func (c *cursor) row() string {
	n := c.number()
	if n > 1<<20 || n > len(c.text) {
		c.bad = true
		return ""
	}
	return c.take(n)
}

// unframed tells the body at the front and what stands behind it; short is what a torn write may leave.
func unframed(text string) (body, rest string, short, bad bool) {
	if text == "" {
		return "", "", true, false
	}
	if text[0] != 0xc9 {
		return "", "", false, true
	}
	if len(text) < 9 {
		return "", "", true, false
	}
	c := cursor{text: text[1:]}
	n := c.number()
	if sumOf(text[:5]) != text[5:9] || n > 1<<24 {
		return "", "", false, true
	}
	if len(text) < n+13 {
		return "", "", true, false
	}
	body = text[9 : 9+n]
	if sumOf(body) != text[9+n:13+n] {
		return "", "", false, true
	}
	return body, text[13+n:], false, false
}

// open does what P11.1 says.
func (m *model) open() api.Errno {
	names, e := m.d.Names()
	if e != api.OK {
		return e
	}
	m.number, m.pairs, m.logSize, m.err = 0, map[string]string{}, 0, api.OK
	if text, e := m.d.Read("snap"); e == api.OK && !m.snap(string(text)) {
		return api.ErrStoreDamage
	}
	if e := m.replay(); e != api.OK {
		return e
	}
	for _, name := range names {
		if name != "snap.new" && !isLogName(name) || name == m.log() {
			continue
		}
		if e := m.d.Remove(name); e != api.OK {
			return e
		}
	}
	return api.OK
}

func isLogName(name string) bool {
	digits, is := strings.CutPrefix(name, "log.")
	if !is || digits == "" || strings.Trim(digits, "0123456789") != "" || len(digits) > 1 && digits[0] == '0' {
		return false
	}
	return len(digits) < 19 || len(digits) == 19 && digits <= "4611686018427387904"
}

// snap reads a snapshot; false, if it is none.
func (m *model) snap(text string) bool {
	body, rest, short, bad := unframed(text)
	if short || bad || len(body) != 12 {
		return false
	}
	m.number = binary.BigEndian.Uint64([]byte(body))
	count, before := int(binary.BigEndian.Uint32([]byte(body[8:]))), ""
	for n := 0; n < count; n++ {
		body, rest, short, bad = unframed(rest)
		c := cursor{text: body}
		key, value := c.row(), c.row()
		if short || bad || c.bad || c.text != "" || key <= before || len(key) > 256 || len(value) > 1<<18 {
			return false
		}
		m.pairs[key], before = value, key
	}
	return rest == "" && m.number <= last && m.fit(m.pairs)
}

// replay reads the log, cuts off what a torn write has left, and carries the batches out.
func (m *model) replay() api.Errno {
	b, _ := m.d.Read(m.log())
	text, forms := string(b), []string{}
	for text != "" {
		body, rest, short, bad := unframed(text)
		if bad {
			return api.ErrStoreDamage
		}
		if short {
			break
		}
		forms, text = append(forms, body), rest
	}
	if text != "" {
		if e := m.d.Cut(m.log(), len(b)-len(text)); e != api.OK {
			return e
		}
	}
	for _, form := range forms {
		l, good := changesOf(form)
		if !good {
			return api.ErrStoreDamage
		}
		m.pairs = behind(m.pairs, l)
		if !m.fit(m.pairs) {
			return api.ErrStoreDamage
		}
	}
	m.logSize = len(b) - len(text)
	return api.OK
}

// changesOf reads a batch's form.
func changesOf(form string) ([]api.Change, bool) {
	c := cursor{text: form}
	count := c.number()
	if count > 16384 {
		return nil, false
	}
	var l []api.Change
	for range count {
		flag, key, value := c.take(1), c.row(), c.row()
		if c.bad || flag > "\x01" || key == "" || len(key) > 256 || len(value) > 262144 || flag == "\x01" && value != "" {
			return nil, false
		}
		l = append(l, api.Change{Key: []byte(key), Value: []byte(value), Gone: flag == "\x01"})
	}
	return l, !c.bad && c.text == ""
}

// behind tells the pairs behind a batch.
func behind(pairs map[string]string, l []api.Change) map[string]string {
	pairs = maps.Clone(pairs)
	for _, c := range l {
		if c.Gone {
			delete(pairs, string(c.Key))
		} else {
			pairs[string(c.Key)] = string(c.Value)
		}
	}
	return pairs
}

// refused keeps the disk's error.
func (m *model) refused(e api.Errno) api.Errno {
	m.err = e
	return api.ErrStoreOff
}

// commit does what P11.2 says.
func (m *model) commit(l []api.Change) api.Errno {
	if m.err != api.OK {
		return api.ErrStoreOff
	}
	if len(l) > 16384 {
		return api.ErrStoreBatch
	}
	for _, c := range l {
		switch {
		case len(c.Key) == 0 || len(c.Key) > 256:
			return api.ErrStoreKey
		case len(c.Value) > 262144 || c.Gone && len(c.Value) != 0:
			return api.ErrStoreValue
		}
	}
	form := formOf(l)
	if len(form) > 16777216 {
		return api.ErrStoreBatch
	}
	pairs := behind(m.pairs, l)
	if !m.fit(pairs) {
		return api.ErrStoreFull
	}
	if len(l) == 0 {
		return api.OK
	}
	if m.logSize != 0 && m.logSize+len(form)+13 > m.limits.Log && m.number != last {
		if e := m.compact(); e != api.OK {
			return e
		}
	}
	if e := m.d.Append(m.log(), []byte(frameOf(form))); e != api.OK {
		return m.refused(e)
	}
	m.pairs, m.logSize = pairs, m.logSize+len(form)+13
	return api.OK
}

// compact does what P11.3 says.
func (m *model) compact() api.Errno {
	if m.err != api.OK {
		return api.ErrStoreOff
	}
	if m.number == last {
		return api.ErrStoreFull
	}
	var l []api.Change
	for _, key := range sortedKeys(m.pairs) {
		l = append(l, api.Change{Key: []byte(key), Value: []byte(m.pairs[key])})
	}
	if e := m.d.Append("snap.new", []byte(headOf(m.number+1, len(l))+pairFrames(l))); e != api.OK {
		return m.refused(e)
	}
	if e := m.d.Rename("snap.new", "snap"); e != api.OK {
		return m.refused(e)
	}
	if _, e := m.d.Size(m.log()); e == api.OK {
		if e := m.d.Remove(m.log()); e != api.OK {
			return m.refused(e)
		}
	}
	m.number, m.logSize = m.number+1, 0
	return api.OK
}

// line tells the pairs from a key up to another one in one line.
func (m *model) line(from, to string) string {
	var l []string
	for _, key := range sortedKeys(m.pairs) {
		if key >= from && (to == "" || key < to) {
			l = append(l, key+"="+m.pairs[key])
		}
	}
	return strings.Join(l, " ")
}

func (m *model) weight() int {
	n := 0
	for key, value := range m.pairs {
		n += len(key) + len(value) + 16
	}
	return n
}
