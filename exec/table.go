package exec

import (
	"slices"

	"handbell/api"
)

// The most that there may be of minor frames, of turns in one, of partitions (more than the monitor's api.MaxParts), of steps at a turn, and of links.
const (
	maxFrames = 16
	maxTurns  = 8
	maxParts  = 8
	maxSteps  = 1 << 20
	maxLinks  = 16
)

func checkTable(frames [][]int, steps []int, links [][2]int) api.Errno {
	notFrames, notParts, notSteps := beyond(1, maxFrames), beyond(1, maxParts), beyond(0, maxSteps)
	if notFrames(len(frames)) || notParts(len(steps)) || slices.ContainsFunc(steps, notSteps) {
		return api.ErrArg
	}
	notPart := beyond(0, len(steps)-1)
	for _, parts := range frames {
		if len(parts) > maxTurns {
			return api.ErrMany
		}
		if slices.ContainsFunc(parts, notPart) {
			return api.ErrPart
		}
	}
	if len(links) > maxLinks {
		return api.ErrMany
	}
	for _, ends := range links {
		if slices.ContainsFunc(ends[:], notPart) {
			return api.ErrPart
		}
	}
	return api.OK
}

// beyond makes the question whether a number is outside two bounds.
func beyond(low, high int) func(n int) bool {
	return func(n int) bool { return n < low || n > high }
}
