package store

import (
	"strconv"
	"strings"

	"postern/api"
	"postern/wal"
)

// The files: the snapshot, one that is not whole yet, and the log, whose name ends with the snapshot's number.
const (
	snapName  = "snap"
	newName   = "snap.new"
	logPrefix = "log."
)

// lastNumber is the greatest one that a snapshot has.
const lastNumber = 1 << 62

func goodLimits(l api.Limits) bool {
	return l.Pairs >= 1 && l.Pairs <= api.MaxPairs && l.Weight >= 1 && l.Weight <= api.MaxWeight && l.Log >= 0 && l.Log <= api.MaxWeight
}

func logName(number uint64) string { return logPrefix + strconv.FormatUint(number, 10) }

// isLog tells whether a file's name is that of some number's log, by that number's one decimal.
func isLog(name string) bool {
	digits, is := strings.CutPrefix(name, logPrefix)
	if !is {
		return false
	}
	n, err := strconv.ParseUint(digits, 10, 64)
	return err == nil && n <= lastNumber && name == logName(n)
}

// readSnap takes the snapshot's number and pairs. Without such a file they are 0 and none.
func (s *Store) readSnap() api.Errno {
	snap, e := s.disk.Read(snapName)
	if e == api.ErrDiskNone {
		return api.OK
	}
	if e != api.OK {
		return e
	}
	number, p, good := parseSnap(snap, s.limits)
	if !good {
		return api.ErrStoreDamage
	}
	s.number, s.pairs = number, p
	return api.OK
}

// readLog opens the log, and carries out its batches.
func (s *Store) readLog() api.Errno {
	log, forms, e := wal.Open(s.disk, logName(s.number))
	if e == api.ErrWalDamage {
		return api.ErrStoreDamage
	}
	if e != api.OK {
		return e
	}
	for _, form := range forms {
		l, good := readBatch(form)
		if !good || s.pairs.carryOut(l, s.limits, nothing) != api.OK {
			return api.ErrStoreDamage
		}
	}
	s.log = log
	return api.OK
}

// nothing is the last step of a batch that stands in the log already.
func nothing() api.Errno { return api.OK }

// sweep removes what was left by what was broken off.
func (s *Store) sweep(names []string) api.Errno {
	for _, name := range names {
		if name != newName && !isLog(name) || name == s.log.Name() {
			continue
		}
		if e := s.disk.Remove(name); e != api.OK {
			return e
		}
	}
	return api.OK
}

// mustCompact tells whether the log has no room for one more form. A log of no bytes takes any, and behind the last number there is no other log.
func (s *Store) mustCompact(form []byte) bool {
	size := s.log.Size()
	return size != 0 && size+frameBytes+len(form) > s.limits.Log && s.number != lastNumber
}

// replace puts a snapshot of the next number in the place of the snapshot and the log that there are.
func (s *Store) replace(snap []byte) api.Errno {
	// Ahead of the writes, as it may be refused: the power may have gone.
	log, _, e := wal.Open(s.disk, logName(s.number+1))
	if e != api.OK {
		return s.off(e)
	}
	if e := s.disk.Append(newName, snap); e != api.OK {
		return s.off(e)
	}
	if e := s.disk.Rename(newName, snapName); e != api.OK {
		return s.off(e)
	}
	// A log without records may have no file.
	if e := s.disk.Remove(s.log.Name()); e != api.OK && e != api.ErrDiskNone {
		return s.off(e)
	}
	s.number, s.log = s.number+1, log
	return api.OK
}
