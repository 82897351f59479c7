package block

import "handbell/api"

type sector [api.SectorSize]byte

// What a choice says: its remainder by waysToSettle is one of these.
const (
	keepsOld = iota
	keepsNew
	_ // torn
	waysToSettle
)

// choicesInAll leaves a torn sector at least one byte of what was written and one of what it kept.
const choicesInAll = waysToSettle * (api.SectorSize - 1)

// settle is what a sector has when the power comes back.
func settle(kept, written sector, choice int) sector {
	c := choice % choicesInAll
	if c < 0 {
		c += choicesInAll
	}
	switch c % waysToSettle {
	case keepsOld:
		return kept
	case keepsNew:
		return written
	}
	copy(kept[:], written[:c/waysToSettle+1])
	return kept
}

// first is the next choice, and those behind it; 0 when they have run out.
func first(choices []int) (int, []int) {
	if len(choices) == 0 {
		return 0, nil
	}
	return choices[0], choices[1:]
}
