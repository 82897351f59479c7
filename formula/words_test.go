package formula

import (
	"math"
	"slices"
	"strings"
	"testing"

	"handbell/api"
)

const most = 1<<31 - 1

// How a reading may stand.
const (
	none  = 0
	fresh = 1
	held  = 2
	stale = 3
	off   = 4
)

// The section 'Words', said again: tables of all nodes at all ticks, parts first, with nothing remembered and nothing called.

// Which fields a node may have, by its Op: a channel or a node ahead in A, a node ahead in B, N within bounds. What is not named is 0.
type fields struct {
	channel, a, b bool
	least, great  int
}

func fieldsOf(op int) (fields, bool) {
	l := []fields{
		{},
		{channel: true, least: -most, great: most},
		{channel: true, least: -most, great: most},
		{channel: true},
		{channel: true},
		{channel: true},
		{a: true},
		{a: true, b: true},
		{a: true, b: true},
		{a: true},
		{a: true, great: 64},
		{a: true, great: 64},
		{a: true, b: true},
	}
	if op < 0 || op >= len(l) {
		return fields{}, false
	}
	return l[op], true
}

func mayBeNode(x api.Node, ahead, channels int) bool {
	f, ok := fieldsOf(x.Op)
	if !ok {
		return false
	}
	one := func(v int, named bool, n int) bool {
		if !named {
			return v == 0
		}
		return 0 <= v && v < n
	}
	size := ahead
	if f.channel {
		size = channels
	}
	return one(x.A, f.channel || f.a, size) && one(x.B, f.b, ahead) && f.least <= x.N && x.N <= f.great
}

// checked is what Check says.
func checked(l []api.Node, channels int) api.Errno {
	if len(l) > 32 {
		return api.ErrMany
	}
	if channels < 0 || channels > 8 {
		return api.ErrArg
	}
	may := len(l) > 0
	for i, x := range l {
		may = may && mayBeNode(x, i, channels)
	}
	if !may {
		return api.ErrForm
	}
	return api.OK
}

// atomHolds tells it of a reading.
func atomHolds(x api.Node, c api.Channel, r api.Reading) bool {
	if r.State != fresh && r.State != held {
		return false
	}
	return []bool{false, r.Value > x.N, r.Value < x.N, r.Value > c.High, r.Value < c.Low, true}[x.Op]
}

// all and any over ticks, both ends among them.
func all(from, to int, so func(int) bool) bool {
	for s := from; s <= to; s++ {
		if !so(s) {
			return false
		}
	}
	return true
}

func some(from, to int, so func(int) bool) bool {
	return !all(from, to, func(s int) bool { return !so(s) })
}

// table tells of each node at which ticks it holds.
func table(l []api.Node, channels []api.Channel, trace [][]api.Reading) [][]bool {
	at := make([][]bool, len(l))
	for i, x := range l {
		at[i] = make([]bool, len(trace))
		for t := range trace {
			at[i][t] = nodeHolds(x, at, t, channels, trace)
		}
	}
	return at
}

func nodeHolds(x api.Node, at [][]bool, t int, channels []api.Channel, trace [][]api.Reading) bool {
	from := t - x.N
	if from < 0 {
		from = 0
	}
	switch x.Op {
	case 0:
		return true
	case 1, 2, 3, 4, 5:
		return atomHolds(x, channels[x.A], trace[t][x.A])
	case 6:
		return !at[x.A][t]
	case 7:
		return at[x.A][t] && at[x.B][t]
	case 8:
		return at[x.A][t] || at[x.B][t]
	case 9:
		return t > 0 && at[x.A][t-1]
	case 10:
		return some(from, t, func(s int) bool { return at[x.A][s] })
	case 11:
		return all(from, t, func(s int) bool { return at[x.A][s] })
	}
	return some(0, t, func(s int) bool {
		return at[x.B][s] && all(s+1, t, func(u int) bool { return at[x.A][u] })
	})
}

// dice throws numbers, always the same ones.
type dice struct{ x uint64 }

func (d *dice) below(n int) int {
	d.x = d.x*6364136223846793005 + 1442695040888963407
	return int(d.x >> 33 % uint64(n))
}

func pick[T any](d *dice, l ...T) T { return l[d.below(len(l))] }

// node is one that may be behind so many others.
func (d *dice) node(ahead, channels int) api.Node {
	for {
		x := api.Node{Op: d.below(13)}
		f, _ := fieldsOf(x.Op)
		if f.channel && channels == 0 || f.a && ahead == 0 {
			continue
		}
		if f.channel {
			x.A = d.below(channels)
		}
		if f.a {
			// Mostly of the last ones, so that formulas grow deep.
			x.A = ahead - 1 - d.below(min(ahead, 4))
		}
		if f.b {
			x.B = d.below(ahead)
		}
		if f.great == most {
			x.N = d.below(7) - 3
		} else if f.great > 0 {
			x.N = pick(d, 0, 1, 2, 3, 5, 9, 63, 64)
		}
		return x
	}
}

func (d *dice) formula(n, channels int) []api.Node {
	var l []api.Node
	for i := range n {
		l = append(l, d.node(i, channels))
	}
	return l
}

func (d *dice) channels(n int) []api.Channel {
	l := make([]api.Channel, n)
	for i := range l {
		l[i] = api.Channel{Port: d.below(4), Handle: d.below(9), Low: d.below(7) - 3, High: d.below(7) - 3}
	}
	return l
}

func (d *dice) reading() api.Reading {
	return pick(d,
		api.Reading{State: fresh, Value: d.below(9) - 4},
		api.Reading{State: held, Value: d.below(9) - 4},
		api.Reading{State: pick(d, none, stale, off)},
		// None of these has a value, whatever stands in it.
		api.Reading{State: pick(d, none, stale, off, -1, 5), Value: d.below(9) - 4},
	)
}

func (d *dice) trace(ticks, channels int) [][]api.Reading {
	l := make([][]api.Reading, ticks)
	for t := range l {
		l[t] = make([]api.Reading, channels)
		for c := range l[t] {
			l[t][c] = d.reading()
		}
	}
	return l
}

// told is what Holds tells at all ticks of a trace.
func told(t *testing.T, l []api.Node, channels []api.Channel, trace [][]api.Reading) []bool {
	t.Helper()
	var at []bool
	for tick := range trace {
		is, e := Holds(l, channels, trace, tick)
		if e != api.OK {
			t.Fatalf("Holds(%v, .., %d): %d", l, tick, e)
		}
		at = append(at, is)
	}
	return at
}

// digits writes 1 for each tick at which something holds.
func digits(at []bool) string {
	var b strings.Builder
	for _, is := range at {
		b.WriteString(map[bool]string{true: "1", false: "0"}[is])
	}
	return b.String()
}

// A case: a formula, and a story of what is read.
type story struct {
	l        []api.Node
	channels []api.Channel
	trace    [][]api.Reading
}

// stories throws many, of all sizes.
func stories(seed uint64, n int, f func(d *dice, s story)) {
	d := &dice{seed}
	for range n {
		channels := d.below(9)
		ticks := 1 + d.below(12)
		if d.below(10) == 0 {
			ticks = 60 + d.below(80)
		}
		f(d, story{d.formula(1+d.below(32), channels), d.channels(channels), d.trace(ticks, channels)})
	}
}

// with is a formula with more nodes behind it, and its root's number.
func (s story) with(l ...api.Node) story {
	s.l = append(slices.Clip(s.l), l...)
	return s
}

func (s story) root() int { return len(s.l) - 1 }

// edges are numbers that none may stumble over.
func edges() []int {
	return []int{math.MinInt, math.MinInt + 1, -most - 2, -most - 1, -most, -65, -64, -33, -9, -8, -2, -1, 0, 1, 2, 7, 8, 9, 10, 31, 32, 33, 63, 64, 65, most - 1, most, most + 1, 1 << 32, 1<<32 + 1, math.MaxInt - 1, math.MaxInt}
}
