package disk

import (
	"maps"
	"math"
	"slices"
	"strings"

	"postern/api"
)

// What stands here is called by those who hold the lock, or have the disk to themselves.

// whole is how much is kept of a write that is not torn: more than any has.
const whole = math.MaxInt

func goodName(name string) bool {
	if len(name) < 1 || len(name) > api.MaxDisk {
		return false
	}
	for i := range len(name) {
		if !goodByte(name[i]) {
			return false
		}
	}
	return true
}

func goodByte(c byte) bool {
	return c >= 'a' && c <= 'z' || c >= '0' && c <= '9' || c == '.' || c == '-' || c == '_'
}

// refusal tells why a call is refused ahead of a look at the files; OK, if it is not.
func (d *Disk) refusal(name string) api.Errno {
	if d.off {
		return api.ErrDiskOff
	}
	if !goodName(name) {
		return api.ErrDiskName
	}
	return api.OK
}

// find tells a file's bytes themselves, no copy; or why it tells none.
func (d *Disk) find(name string) ([]byte, api.Errno) {
	if e := d.refusal(name); e != api.OK {
		return nil, e
	}
	if !d.has(name) {
		return nil, api.ErrDiskNone
	}
	return d.files[name], api.OK
}

func (d *Disk) has(name string) bool {
	_, there := d.files[name]
	return there
}

// fits tells whether so many more bytes may stand under a name.
func (d *Disk) fits(name string, more int) bool {
	if !d.has(name) && len(d.files) >= api.MaxFiles {
		return false
	}
	return more <= d.room-d.used()
}

func (d *Disk) used() int {
	n := 0
	for _, b := range d.files {
		n += len(b)
	}
	return n
}

// put keeps bytes, which are the disk's from then on; of the name a copy, as it may be a piece of a long text.
func (d *Disk) put(name string, b []byte) { d.files[strings.Clone(name)] = b }

func (d *Disk) sorted() []string { return slices.Sorted(maps.Keys(d.files)) }

// write counts a write that nothing refuses any more, and tells how much of it is kept and what the call answers: a write is done if that is above 0.
func (d *Disk) write() (int, api.Errno) {
	d.writes++
	if d.armed != 1 {
		d.armed = max(d.armed-1, 0)
		return whole, api.OK
	}
	d.armed, d.off = 0, true
	return d.keep, api.ErrDiskOff
}
