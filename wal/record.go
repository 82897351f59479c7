package wal

import (
	"slices"

	"handbell/api"
)

type sector [api.SectorSize]byte

// What a sector of the log is, by its first byte behind the stamp.
const (
	_ = iota // noughts are of no kind
	halfSector
	endSector
	headSector
)

// Where the log's sectors have what.
const (
	stampSize = 4
	kindAt    = stampSize
	countAt   = kindAt + 1
	bodyAt    = 16
	half      = api.SectorSize / 2
	secondAt  = api.SectorSize - stampSize // the stamp once more
)

// change is a home sector, and what it is to have.
type change struct {
	to   int
	data sector
}

// sectorsFor is how many sectors a record takes: two for each write, for a whole one has no room between stamps.
func sectorsFor(writes int) int {
	return 2*writes + 1
}

// stamped is a sector of the log; with both its stamps it is not torn.
func stamped(stamp uint32, between ...byte) sector {
	var s sector
	for i := range stampSize {
		b := byte(stamp >> (8 * (stampSize - 1 - i)))
		s[i], s[secondAt+i] = b, b
	}
	copy(s[kindAt:secondAt], between)
	return s
}

func headOf(stamp uint32) sector {
	return stamped(stamp, headSector)
}

// recordOf is the record's sectors, the one that says that all is there as the last one.
func recordOf(stamp uint32, changes []change) []sector {
	n := byte(len(changes))
	end := stamped(stamp, endSector, n)
	var record []sector
	for i, c := range changes {
		for h := range 2 {
			s := stamped(stamp, halfSector, n, byte(i), byte(h))
			copy(s[bodyAt:], c.data[h*half:(h+1)*half])
			record = append(record, s)
		}
		end[bodyAt+2*i], end[bodyAt+2*i+1] = byte(c.to>>8), byte(c.to)
	}
	return append(record, end)
}

// recordAt is what the record at the beginning of these sectors writes; nothing, if none of that stamp begins there.
func recordAt(sectors []sector, stamp uint32) []change {
	if len(sectors) == 0 {
		return nil
	}
	n := int(sectors[0][countAt])
	if n > mostWrites || sectorsFor(n) > len(sectors) {
		return nil
	}
	record := sectors[:sectorsFor(n)]
	changes := make([]change, n)
	end := record[2*n][bodyAt:]
	for i := range changes {
		changes[i].to = int(end[2*i])<<8 | int(end[2*i+1])
		copy(changes[i].data[:half], record[2*i][bodyAt:])
		copy(changes[i].data[half:], record[2*i+1][bodyAt:])
	}
	// Whatever else a sector should have, noughts too, comes out by writing it again.
	if !slices.Equal(record, recordOf(stamp, changes)) {
		return nil
	}
	return changes
}

// firstNumber and secondNumber are what a sector has where stamps are.
func firstNumber(s sector) uint32 {
	return number(s[:stampSize])
}

func secondNumber(s sector) uint32 {
	return number(s[secondAt:])
}

func number(b []byte) uint32 {
	var v uint32
	for _, x := range b {
		v = v<<8 | uint32(x)
	}
	return v
}

// greatestNumber is of torn sectors too, so that what comes behind it is like nothing that there is.
func greatestNumber(log []sector) uint32 {
	var v uint32
	for _, s := range log {
		v = max(v, firstNumber(s), secondNumber(s))
	}
	return v
}
