package formula

import "handbell/api"

// moment is a node at a tick.
type moment struct{ node, tick int }

// answer is what was found of a moment.
type answer struct{ holds bool }

// teller makes the closure that tells whether a node holds at a tick. It calls itself for nodes ahead alone, so that it is never deeper than the formula, however long the trace; what it has found it remembers, but of atoms, which are told as fast: several nodes may ask for one, and at a tick again and again.
func teller(l []api.Node, channels []api.Channel, trace [][]api.Reading) func(node, tick int) bool {
	found := map[moment]answer{}
	var holds func(node, tick int) bool
	holds = func(node, tick int) bool {
		x, at := l[node], moment{node, tick}
		if isAtom(x.Op) {
			is, _ := Atom(x, channels[x.A], trace[tick][x.A])
			return is
		}
		if a, ok := found[at]; ok {
			return a.holds
		}
		is := true // as OpTrue is
		switch x.Op {
		case api.OpNot:
			is = !holds(x.A, tick)
		case api.OpAnd:
			is = holds(x.A, tick) && holds(x.B, tick)
		case api.OpOr:
			is = holds(x.A, tick) || holds(x.B, tick)
		case api.OpPrev:
			is = tick > 0 && holds(x.A, tick-1)
		case api.OpOnce:
			is = anywhere(tick, x.N, func(s int) bool { return holds(x.A, s) })
		case api.OpHist:
			is = !anywhere(tick, x.N, func(s int) bool { return !holds(x.A, s) })
		case api.OpSince:
			is = since(x, at, found, holds)
		}
		found[at] = answer{is}
		return is
	}
	return holds
}

// anywhere tells whether something is so at a tick of a window.
func anywhere(tick, window int, so func(tick int) bool) bool {
	for s := max(tick-window, 0); s <= tick; s++ {
		if so(s) {
			return true
		}
	}
	return false
}

// since goes back to the tick that settles a since. What settles it at the last of these ticks settles it at all of them, and is remembered of all: else one since within another would go back over the same ticks for each of them.
func since(x api.Node, at moment, found map[moment]answer, holds func(node, tick int) bool) bool {
	back, is := at.tick, false
	for ; back >= 0; back-- {
		if a, ok := found[moment{at.node, back}]; ok {
			is = a.holds
			break
		}
		if holds(x.B, back) {
			is = true
			break
		}
		if !holds(x.A, back) {
			break
		}
	}
	for s := max(back, 0); s <= at.tick; s++ {
		found[moment{at.node, s}] = answer{is}
	}
	return is
}
