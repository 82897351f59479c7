package rule

import (
	"math"
	"slices"
	"testing"

	"handbell/api"
	"handbell/formula"
)

// P17.4: at each tick it says what Holds says of all the past.

func TestP174Holds(t *testing.T) {
	stories(1740, 4000, func(_ *dice, s story) {
		got := steps(t, s.l, s.channels, s.trace)
		for tick := range s.trace {
			// At this tick the trace is what was read so far.
			want, e := formula.Holds(s.l, s.channels, s.trace[:tick+1], tick)
			if e != api.OK || got[tick] != want {
				t.Fatalf("%v over %v, %v at %d: %v; Holds: %v, %d", s.l, s.channels, s.trace, tick, got[tick], want, e)
			}
		}
	})
}

func TestP174Random(t *testing.T) {
	stories(1741, 20000, func(_ *dice, s story) { agrees(t, s) })
}

// operators are all of them over the nodes a and b, with windows that are shorter than, as long as and longer than a short trace.
func operators(a, b int) []api.Node {
	l := []api.Node{{Op: 6, A: a}, {Op: 7, A: a, B: b}, {Op: 8, A: a, B: b}, {Op: 9, A: a}, {Op: 12, A: a, B: b}, {Op: 12, A: b, B: a}}
	for _, n := range []int{0, 1, 2, 4, 64} {
		l = append(l, api.Node{Op: 10, A: a, N: n}, api.Node{Op: 11, A: a, N: n})
	}
	return l
}

// bits are traces of two channels: all of so many ticks.
func bits(ticks int, f func(trace [][]api.Reading)) {
	for x := range 1 << (2 * ticks) {
		trace := make([][]api.Reading, ticks)
		for i := range trace {
			trace[i] = []api.Reading{{State: fresh, Value: x >> (2 * i) & 1}, {State: held, Value: x >> (2*i + 1) & 1}}
		}
		f(trace)
	}
}

// Each operator over all traces of two channels of six ticks (and so of fewer).
func TestP174Exhaustive(t *testing.T) {
	channels := make([]api.Channel, 2)
	bits(6, func(trace [][]api.Reading) {
		for _, x := range operators(0, 1) {
			agrees(t, story{[]api.Node{above(0), above(1), x}, channels, trace})
		}
	})
}

// Each operator of each operator, over all traces of four ticks.
func TestP174Nested(t *testing.T) {
	channels := make([]api.Channel, 2)
	bits(4, func(trace [][]api.Reading) {
		for _, inner := range operators(0, 1) {
			for _, outer := range operators(2, 1) {
				agrees(t, story{[]api.Node{above(0), above(1), inner, outer}, channels, trace})
			}
		}
	})
}

// A part that several nodes have, and nodes twice over: each keeps a number of its own.
func TestP174Shared(t *testing.T) {
	channels, trace := ones("1001101000", "0100001001")
	for _, x := range operators(0, 1) {
		for _, y := range operators(0, 1) {
			for _, both := range []int{7, 8, 12} {
				agrees(t, story{[]api.Node{above(0), above(1), x, y, {Op: both, A: 2, B: 3}}, channels, trace})
			}
		}
	}
	for _, op := range []int{7, 8, 12} {
		l := []api.Node{above(0)}
		for i := range 31 {
			l = append(l, api.Node{Op: op, A: i, B: i})
		}
		agrees(t, story{l, channels, trace})
	}
}

// What the root does not need at a tick goes on all the same: here a node behind an And whose other part does not hold.
func TestP174NotNeeded(t *testing.T) {
	channels, trace := ones("0000011", "0010000")
	l := []api.Node{above(0), above(1), {Op: 10, A: 1, N: 3}, {Op: 7, A: 0, B: 2}}
	if got := digits(steps(t, l, channels, trace)); got != "0000010" {
		t.Errorf("%s", got)
	}
	l = []api.Node{above(0), above(1), {Op: 9, A: 1}, {Op: 6, A: 0}, {Op: 8, A: 3, B: 2}}
	channels, trace = ones("0011", "0100")
	if got := digits(steps(t, l, channels, trace)); got != "1110" {
		t.Errorf("%s", got)
	}
}

// A chain of all 31 prevs, and windows within windows: each tick is counted off.
func TestP174Deep(t *testing.T) {
	row := slices.Repeat([]byte{'0'}, 31*64+10)
	row[0] = '1'
	channels, trace := ones(string(row))
	for _, c := range []struct{ op, n, from, to int }{{9, 0, 31, 31}, {10, 64, 0, 31 * 64}, {10, 1, 0, 31}, {10, 0, 0, 0}} {
		l := []api.Node{above(0)}
		for i := range 31 {
			l = append(l, api.Node{Op: c.op, A: i, N: c.n})
		}
		for tick, is := range steps(t, l, channels, trace) {
			if is != (c.from <= tick && tick <= c.to) {
				t.Fatalf("31 times Op %d of %d at %d: %v", c.op, c.n, tick, is)
			}
		}
	}
}

// A past that is far too long to be gone back over at each tick.
func TestP174Long(t *testing.T) {
	const ticks = 500000
	l := []api.Node{above(0), {Op: 5}, {Op: 12, A: 1, B: 0}, {Op: 9, A: 2}, {Op: 11, A: 3, N: 64}, {Op: 10, A: 0, N: 64}, {Op: 6, A: 5}, {Op: 7, A: 4, B: 6}}
	m := made(t, l, make([]api.Channel, 1))
	for tick := range ticks {
		r := api.Reading{State: held}
		switch tick {
		case 0:
			r.Value = 1
		case ticks - 100:
			r = api.Reading{State: stale, Value: 1}
		}
		// The prev is so from 1 on, the hist of it from 65 on, as the once of 64 is over; the since ends with what is known.
		want := 65 <= tick && tick <= ticks-100
		if is := stepped(t, m, []api.Reading{r}); is != want {
			t.Fatalf("at %d: %v", tick, is)
		}
	}
}

// P17.5: a step that is refused changes nothing; two machines have nothing to do with one another.

func TestP175Refused(t *testing.T) {
	stories(1750, 4000, func(d *dice, s story) {
		m := made(t, s.l, s.channels)
		want := wanted(s.l, s.channels, s.trace)
		for tick, row := range s.trace {
			for range d.below(4) {
				n := d.below(12)
				if n == len(s.channels) {
					continue
				}
				if is, e := m.Step(d.row(n)); is || e != api.ErrArg {
					t.Fatalf("%d readings of %d channels: %v, %d", n, len(s.channels), is, e)
				}
			}
			if m.Words() != memory(s.l) {
				t.Fatalf("%v: Words %d", s.l, m.Words())
			}
			if is := stepped(t, m, row); is != want[tick] {
				t.Fatalf("%v over %v, %v at %d: %v", s.l, s.channels, s.trace, tick, is)
			}
		}
	})
}

// runner is a machine with its story, and how far it is.
type runner struct {
	m    *Machine
	s    story
	want []bool
	tick int
}

// Several machines, of the same lists and of others, that make their steps in any order.
func TestP175Apart(t *testing.T) {
	stories(1751, 2000, func(d *dice, s story) {
		other := story{d.formula(1+d.below(32), len(s.channels), allOps()), d.channels(len(s.channels)), s.trace}
		later := story{s.l, s.channels, d.trace(len(s.trace), len(s.channels))}
		var l []*runner
		for _, s := range []story{s, s, later, other} {
			l = append(l, &runner{made(t, s.l, s.channels), s, wanted(s.l, s.channels, s.trace), 0})
		}
		for range 4 * len(s.trace) {
			r := pick(d, l...)
			if r.tick == len(r.s.trace) {
				continue
			}
			if is := stepped(t, r.m, r.s.trace[r.tick]); is != r.want[r.tick] {
				t.Fatalf("%v over %v, %v at %d: %v", r.s.l, r.s.channels, r.s.trace, r.tick, is)
			}
			r.tick++
		}
	})
}

// P17.6: of a formula without since, prev and hist, nothing counts that is longer ago than all its windows together.

func windows(l []api.Node) int {
	n := 0
	for _, x := range l {
		if x.Op == 10 {
			n += x.N
		}
	}
	return n
}

func TestP176Forgets(t *testing.T) {
	d := &dice{176}
	compared, differed := 0, 0
	for range 3000 {
		channels := 1 + d.below(8)
		s := story{l: d.formula(1+d.below(10), channels, []int{0, 1, 2, 3, 4, 5, 6, 7, 8, 10, 10}), channels: d.channels(channels)}
		early, late := made(t, s.l, s.channels), made(t, s.l, s.channels)
		for range 1 + d.below(100) {
			stepped(t, early, d.row(channels))
		}
		all := windows(s.l)
		for ago := range all + 20 {
			row := d.row(channels)
			a, b := stepped(t, early, row), stepped(t, late, row)
			if a == b {
				compared++
				continue
			}
			if differed++; ago > all {
				t.Fatalf("%v over %v: began %d ticks ago: %v; earlier: %v", s.l, s.channels, ago, b, a)
			}
		}
	}
	if compared < 10000 || differed < 100 {
		t.Errorf("%d were alike, %d were not", compared, differed)
	}
}

// The edge: windows in a row count together, to the tick.
func TestP176Edge(t *testing.T) {
	channels, one := ones("1")
	_, nought := ones("0")
	for _, c := range [][]int{{0}, {1}, {5}, {64}, {1, 1}, {2, 3}, {64, 64}, {0, 7, 0, 9}} {
		l := []api.Node{above(0)}
		for i, n := range c {
			l = append(l, api.Node{Op: 10, A: i, N: n})
		}
		early, late := made(t, l, channels), made(t, l, channels)
		stepped(t, early, one[0])
		for ago := range windows(l) + 5 {
			// The one was a tick ahead of the late one's first tick.
			a, b := stepped(t, early, nought[0]), stepped(t, late, nought[0])
			if b || a != (ago+1 <= windows(l)) {
				t.Fatalf("windows %v, %d ticks ago: %v, %v", c, ago, a, b)
			}
		}
	}
}

// Whatever they are handed, no call panics.
func TestR1(t *testing.T) {
	d := &dice{17}
	l := append(edges(), math.MinInt32, math.MaxInt32)
	for range 50000 {
		nodes := make([]api.Node, d.below(5))
		for i := range nodes {
			nodes[i] = api.Node{Op: pick(d, d.below(15)-1, pick(d, l...)), A: pick(d, 0, 1, pick(d, l...)), B: pick(d, 0, 1, pick(d, l...)), N: pick(d, 0, 1, pick(d, l...))}
		}
		channels := make([]api.Channel, d.below(10))
		for i := range channels {
			channels[i] = api.Channel{Port: pick(d, l...), Handle: pick(d, l...), Low: pick(d, l...), High: pick(d, l...)}
		}
		m, _ := New(nodes, channels)
		for range 3 {
			row := make([]api.Reading, pick(d, len(channels), d.below(10)))
			for i := range row {
				row[i] = api.Reading{State: pick(d, 1, pick(d, l...)), Value: pick(d, l...)}
			}
			m.Step(row)
			m.Words()
		}
	}
}
