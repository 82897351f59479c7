package wal

import (
	"slices"

	"handbell/api"
)

// changesOf are writes whose data has the size of a sector; none, if one has not, or there are too many of them.
func changesOf(w []Write) []change {
	if len(w) > mostWrites {
		return nil
	}
	var changes []change
	for _, x := range w {
		if len(x.Data) != api.SectorSize {
			return nil
		}
		changes = append(changes, change{x.Sector, sector(x.Data)})
	}
	return changes
}

// areRecord tells whether a record may be made of these changes.
func (l *Log) areRecord(changes []change) bool {
	for i, c := range changes {
		same := func(other change) bool { return other.to == c.to }
		if !l.isHome(c.to) || slices.ContainsFunc(changes[:i], same) {
			return false
		}
	}
	return len(changes) > 0
}

func (l *Log) sectorsOfLog() ([]sector, api.Errno) {
	log := make([]sector, l.sectors)
	for i := range log {
		b, e := l.d.Read(i)
		if e != api.OK {
			return nil, api.ErrDead
		}
		log[i] = sector(b)
	}
	return log, api.OK
}

// held is what the log's records write, one behind the other: a sector may come several times.
func (l *Log) held(log []sector) []change {
	stamp := firstNumber(log[0])
	if stamp == 0 || log[0] != headOf(stamp) {
		return nil
	}
	var all []change
	for rest := log[1:]; ; {
		stamp++
		changes := recordAt(rest, stamp)
		if !l.areRecord(changes) {
			return all
		}
		all = append(all, changes...)
		rest = rest[sectorsFor(len(changes)):]
	}
}

// bringHome makes changes where they belong, and then a head, so that no record is held any more: the changes are flushed ahead of it.
func (l *Log) bringHome(changes []change) api.Errno {
	for _, c := range changes {
		if e := l.write(c.to, c.data); e != api.OK {
			return e
		}
	}
	if len(changes) > 0 {
		if e := l.flush(); e != api.OK {
			return e
		}
	}
	if e := l.write(0, headOf(l.next)); e != api.OK {
		return e
	}
	l.next++
	return l.flush()
}

// writeRecord flushes all that a record has ahead of the sector that says so.
func (l *Log) writeRecord(record []sector) api.Errno {
	at, last := 1+l.taken, len(record)-1
	for i, s := range record[:last] {
		if e := l.write(at+i, s); e != api.OK {
			return e
		}
	}
	if e := l.flush(); e != api.OK {
		return e
	}
	if e := l.write(at+last, record[last]); e != api.OK {
		return e
	}
	return l.flush()
}

func (l *Log) write(i int, s sector) api.Errno {
	return l.heard(l.d.Write(i, s[:]))
}

func (l *Log) flush() api.Errno {
	return l.heard(l.d.Flush())
}

// heard takes what the device has answered: behind an error nobody knows what it has, till the log is opened anew.
func (l *Log) heard(e api.Errno) api.Errno {
	if e != api.OK {
		l.broken = true
		return api.ErrDead
	}
	return api.OK
}
