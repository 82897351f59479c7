package rule

import "handbell/api"

// keeper is what a node keeps from tick to tick: one number, which its step alone can reach.
type keeper struct {
	step stepper // nil of a node that keeps nothing
}

// stepper is a tick: told whether the parts A and B hold now, it tells whether the node does.
type stepper func(a, b bool) bool

func keeperOf(x api.Node) keeper {
	switch x.Op {
	case api.OpPrev:
		return keeper{prev()}
	case api.OpOnce:
		return keeper{once(x.N)}
	case api.OpHist:
		return keeper{hist(x.N)}
	case api.OpSince:
		return keeper{since()}
	}
	return keeper{}
}

// prev keeps whether A held, as 1 or 0.
func prev() stepper {
	held := 0
	return func(a, _ bool) bool {
		is := held == 1
		held = number(a)
		return is
	}
}

// once keeps for how many ticks behind this one A, held last, still counts: that is all of the window that can ever be asked for.
func once(window int) stepper {
	left := 0
	return func(a, _ bool) bool {
		is := a || left > 0
		left = max(left-1, 0)
		if a {
			left = window
		}
		return is
	}
}

// hist is the contrary of once of the contrary, also at the first ticks: what was ahead of them never failed.
func hist(window int) stepper {
	failed := once(window)
	return func(a, b bool) bool { return !failed(!a, b) }
}

// since keeps whether it held itself, as 1 or 0: that B held once, and A ever since.
func since() stepper {
	held := 0
	return func(a, b bool) bool {
		is := b || a && held == 1
		held = number(is)
		return is
	}
}

func number(is bool) int {
	if is {
		return 1
	}
	return 0
}
