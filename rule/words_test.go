package rule

import (
	"math"
	"slices"
	"strings"
	"testing"

	"handbell/api"
)

const most = 1<<31 - 1

// How a reading may stand.
const (
	none  = 0
	fresh = 1
	held  = 2
	stale = 3
	off   = 4
)

// What holds of the past, said again: tables of all nodes at all ticks of a trace, parts first.

func atomHolds(x api.Node, c api.Channel, r api.Reading) bool {
	if r.State != fresh && r.State != held {
		return false
	}
	return []bool{false, r.Value > x.N, r.Value < x.N, r.Value > c.High, r.Value < c.Low, true}[x.Op]
}

// all and some over ticks, both ends among them.
func all(from, to int, so func(int) bool) bool {
	for s := from; s <= to; s++ {
		if !so(s) {
			return false
		}
	}
	return true
}

func some(from, to int, so func(int) bool) bool {
	return !all(from, to, func(s int) bool { return !so(s) })
}

// wanted tells at which ticks of a trace a formula holds.
func wanted(l []api.Node, channels []api.Channel, trace [][]api.Reading) []bool {
	at := make([][]bool, len(l))
	for i, x := range l {
		at[i] = make([]bool, len(trace))
		for t := range trace {
			if 1 <= x.Op && x.Op <= 5 {
				at[i][t] = atomHolds(x, channels[x.A], trace[t][x.A])
			} else {
				at[i][t] = nodeHolds(x, at, t)
			}
		}
	}
	return at[len(l)-1]
}

func nodeHolds(x api.Node, at [][]bool, t int) bool {
	a := func(s int) bool { return at[x.A][s] }
	b := func(s int) bool { return at[x.B][s] }
	from := max(t-x.N, 0)
	switch x.Op {
	case 0:
		return true
	case 6:
		return !a(t)
	case 7:
		return a(t) && b(t)
	case 8:
		return a(t) || b(t)
	case 9:
		return t > 0 && a(t-1)
	case 10:
		return some(from, t, a)
	case 11:
		return all(from, t, a)
	}
	return some(0, t, func(s int) bool { return b(s) && all(s+1, t, a) })
}

// memory is how many nodes keep a number.
func memory(l []api.Node) int {
	n := 0
	for _, x := range l {
		if x.Op == 9 || x.Op == 10 || x.Op == 11 || x.Op == 12 {
			n++
		}
	}
	return n
}

// dice throws numbers, always the same ones.
type dice struct{ x uint64 }

func (d *dice) below(n int) int {
	d.x = d.x*6364136223846793005 + 1442695040888963407
	return int(d.x >> 33 % uint64(n))
}

func pick[T any](d *dice, l ...T) T { return l[d.below(len(l))] }

// node is one that may be behind so many others, with one of these operations, as far as there are parts and channels for it.
func (d *dice) node(ahead, channels int, ops []int) api.Node {
	for {
		x := api.Node{Op: pick(d, ops...)}
		isAtom, hasParts := 1 <= x.Op && x.Op <= 5, x.Op >= 6
		if isAtom && channels == 0 || hasParts && ahead == 0 {
			continue
		}
		if isAtom {
			x.A = d.below(channels)
		}
		if hasParts {
			// Mostly of the last ones, so that formulas grow deep.
			x.A = ahead - 1 - d.below(min(ahead, 4))
		}
		switch x.Op {
		case 1, 2:
			x.N = d.below(7) - 3
		case 7, 8, 12:
			x.B = d.below(ahead)
		case 10, 11:
			x.N = pick(d, 0, 1, 2, 3, 5, 9, 63, 64)
		}
		return x
	}
}

func allOps() []int { return []int{0, 1, 2, 3, 4, 5, 6, 7, 8, 9, 10, 11, 12} }

func (d *dice) formula(n, channels int, ops []int) []api.Node {
	var l []api.Node
	for i := range n {
		l = append(l, d.node(i, channels, ops))
	}
	return l
}

func (d *dice) channels(n int) []api.Channel {
	l := make([]api.Channel, n)
	for i := range l {
		l[i] = api.Channel{Port: d.below(4), Handle: d.below(9), Low: d.below(7) - 3, High: d.below(7) - 3}
	}
	return l
}

func (d *dice) row(channels int) []api.Reading {
	l := make([]api.Reading, channels)
	for c := range l {
		l[c] = pick(d,
			api.Reading{State: fresh, Value: d.below(9) - 4},
			api.Reading{State: held, Value: d.below(9) - 4},
			api.Reading{State: pick(d, none, stale, off)},
			// None of these has a value, whatever stands in it.
			api.Reading{State: pick(d, none, stale, off, -1, 5), Value: d.below(9) - 4},
		)
	}
	return l
}

func (d *dice) trace(ticks, channels int) [][]api.Reading {
	l := make([][]api.Reading, ticks)
	for t := range l {
		l[t] = d.row(channels)
	}
	return l
}

// story is a formula, and what is read.
type story struct {
	l        []api.Node
	channels []api.Channel
	trace    [][]api.Reading
}

// stories throws many, of all sizes.
func stories(seed uint64, n int, f func(d *dice, s story)) {
	d := &dice{seed}
	for range n {
		channels := d.below(9)
		ticks := 1 + d.below(12)
		if d.below(10) == 0 {
			ticks = 60 + d.below(150)
		}
		f(d, story{d.formula(1+d.below(32), channels, allOps()), d.channels(channels), d.trace(ticks, channels)})
	}
}

// made is a machine that there must be.
func made(t *testing.T, l []api.Node, channels []api.Channel) *Machine {
	t.Helper()
	m, e := New(l, channels)
	if m == nil || e != api.OK {
		t.Fatalf("New(%v, %v) = %v, %d", l, channels, m, e)
	}
	return m
}

// stepped is a step that must not be refused.
func stepped(t *testing.T, m *Machine, row []api.Reading) bool {
	t.Helper()
	is, e := m.Step(row)
	if e != api.OK {
		t.Fatalf("Step(%v): %d", row, e)
	}
	return is
}

// steps are a new machine's over a trace.
func steps(t *testing.T, l []api.Node, channels []api.Channel, trace [][]api.Reading) []bool {
	t.Helper()
	m := made(t, l, channels)
	var at []bool
	for _, row := range trace {
		at = append(at, stepped(t, m, row))
	}
	return at
}

// agrees holds a machine's steps against the tables.
func agrees(t *testing.T, s story) {
	t.Helper()
	got, want := steps(t, s.l, s.channels, s.trace), wanted(s.l, s.channels, s.trace)
	if !slices.Equal(got, want) {
		t.Fatalf("%v over %v, %v: %s, want %s", s.l, s.channels, s.trace, digits(got), digits(want))
	}
}

// digits writes 1 for each tick at which something holds.
func digits(at []bool) string {
	var b strings.Builder
	for _, is := range at {
		b.WriteString(map[bool]string{true: "1", false: "0"}[is])
	}
	return b.String()
}

// ones are channels of which above 0 holds at the ticks with 1.
func ones(rows ...string) ([]api.Channel, [][]api.Reading) {
	trace := make([][]api.Reading, len(rows[0]))
	for _, row := range rows {
		for t, c := range row {
			trace[t] = append(trace[t], api.Reading{State: fresh, Value: int(c - '0')})
		}
	}
	return make([]api.Channel, len(rows)), trace
}

// above holds where a channel of ones has 1.
func above(channel int) api.Node { return api.Node{Op: 1, A: channel} }

// edges are numbers that none may stumble over.
func edges() []int {
	return []int{math.MinInt, math.MinInt + 1, -most - 1, -most, -65, -9, -1, 0, 1, 2, 7, 8, 9, 12, 13, 31, 32, 33, 64, 65, most, most + 1, 1 << 32, math.MaxInt}
}
