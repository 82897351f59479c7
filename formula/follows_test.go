package formula

import (
	"slices"
	"testing"

	"handbell/api"
)

// each holds something against each tick of what several formulas tell of a story.
func each(t *testing.T, law string, want func(at []bool) bool, s story, l ...[]bool) {
	t.Helper()
	for tick := range s.trace {
		var at []bool
		for _, row := range l {
			at = append(at, row[tick])
		}
		if !want(at) {
			t.Fatalf("%s: at %d of %v, %v, %v: %v", law, tick, s.l, s.channels, s.trace, at)
		}
	}
}

// same is that all are alike.
func same(at []bool) bool {
	return !slices.Contains(at, !at[0])
}

// implies is that the second one holds where the first one does.
func implies(at []bool) bool {
	return !at[0] || at[1]
}

func (s story) told(t *testing.T, l ...api.Node) []bool {
	t.Helper()
	return told(t, s.with(l...).l, s.channels, s.trace)
}

// small makes stories whose formulas have room for what laws put behind them, with two nodes of it.
func small(seed uint64, f func(s story, d *dice, a, b int)) {
	stories(seed, 1500, func(d *dice, s story) {
		s.l = s.l[:min(len(s.l), 24)]
		f(s, d, d.below(len(s.l)), d.below(len(s.l)))
	})
}

func TestP155Logic(t *testing.T) {
	small(1550, func(s story, _ *dice, a, b int) {
		n := len(s.l)
		not := func(x int) api.Node { return api.Node{Op: 6, A: x} }
		and := func(x, y int) api.Node { return api.Node{Op: 7, A: x, B: y} }
		or := func(x, y int) api.Node { return api.Node{Op: 8, A: x, B: y} }
		each(t, "the contrary of both is one of the contraries", same, s,
			s.told(t, and(a, b), not(n)), s.told(t, not(a), not(b), or(n, n+1)))
		each(t, "the contrary of one of both is both contraries", same, s,
			s.told(t, or(a, b), not(n)), s.told(t, not(a), not(b), and(n, n+1)))
		part, not1 := s.told(t, and(a, a)), s.told(t, not(a))
		each(t, "what is not not, is", same, s, part, s.told(t, not(a), not(n)), s.told(t, or(a, a)))
		each(t, "one or the contrary", func(at []bool) bool { return at[0] != at[1] }, s, part, not1)
		each(t, "both ways round", same, s, s.told(t, and(a, b)), s.told(t, and(b, a)))
		each(t, "both ways round", same, s, s.told(t, or(a, b)), s.told(t, or(b, a)))
		each(t, "both is within one of both", implies, s, s.told(t, and(a, b)), s.told(t, or(a, b)))
		each(t, "true", func(at []bool) bool { return at[0] && !at[1] }, s, s.told(t, or(a, a), not(n), or(a, n+1)), s.told(t, not(a), and(a, n)))
	})
}

func TestP155Windows(t *testing.T) {
	small(1551, func(s story, d *dice, a, _ int) {
		n := len(s.l)
		once := func(x, window int) api.Node { return api.Node{Op: 10, A: x, N: window} }
		hist := func(x, window int) api.Node { return api.Node{Op: 11, A: x, N: window} }
		not := func(x int) api.Node { return api.Node{Op: 6, A: x} }
		part := s.told(t, api.Node{Op: 7, A: a, B: a})
		each(t, "a window 0", same, s, part, s.told(t, once(a, 0)), s.told(t, hist(a, 0)))
		short := d.below(64)
		long := short + 1 + d.below(64-short)
		o, h := s.told(t, once(a, short)), s.told(t, hist(a, short))
		each(t, "once is the contrary of hist of the contrary", same, s, o, s.told(t, not(a), hist(n, short), not(n+1)))
		each(t, "hist is the contrary of once of the contrary", same, s, h, s.told(t, not(a), once(n, short), not(n+1)))
		each(t, "hist is within once", implies, s, h, o)
		each(t, "hist of a longer window is within a shorter one", implies, s, s.told(t, hist(a, long)), h)
		each(t, "once of a shorter window is within a longer one", implies, s, o, s.told(t, once(a, long)))
		each(t, "hist is within the part", implies, s, h, part)
		each(t, "the part is within once", implies, s, part, o)
	})
}

func TestP156Since(t *testing.T) {
	small(1560, func(s story, _ *dice, a, b int) {
		n := len(s.l)
		since := api.Node{Op: 12, A: a, B: b}
		each(t, "since is B, or A and since one tick ahead", same, s, s.told(t, since),
			s.told(t, since, api.Node{Op: 9, A: n}, api.Node{Op: 7, A: a, B: n + 1}, api.Node{Op: 8, A: b, B: n + 2}))
	})
}

func TestP156Once(t *testing.T) {
	small(1561, func(s story, d *dice, a, _ int) {
		n := len(s.l)
		for _, window := range []int{0, 1, d.below(64), 63} {
			once := api.Node{Op: 10, A: a, N: window}
			longer := api.Node{Op: 10, A: a, N: window + 1}
			each(t, "once of N + 1 is the part, or once of N one tick ahead", same, s, s.told(t, longer),
				s.told(t, once, api.Node{Op: 9, A: n}, api.Node{Op: 8, A: a, B: n + 1}))
		}
	})
}

// What comes behind a tick, and whether anything does, makes no difference.
func TestP157Past(t *testing.T) {
	stories(1570, 3000, func(d *dice, s story) {
		tick := d.below(len(s.trace))
		want, e := Holds(s.l, s.channels, s.trace, tick)
		if e != api.OK {
			t.Fatalf("%v: %d", s.l, e)
		}
		short := s.trace[:tick+1]
		other := slices.Concat(short, d.trace(1+d.below(9), len(s.channels)))
		for _, trace := range [][][]api.Reading{short, other} {
			if is, e := Holds(s.l, s.channels, trace, tick); is != want || e != api.OK {
				t.Fatalf("%v at %d of %v: %v, %d; of %v: %v", s.l, tick, s.trace, want, api.OK, trace, is)
			}
		}
	})
}

// parts tells which nodes the root is made of.
func parts(l []api.Node) []bool {
	is := make([]bool, len(l))
	is[len(l)-1] = true
	for i := len(l) - 1; i >= 0; i-- {
		f, _ := fieldsOf(l[i].Op)
		if is[i] && f.a {
			is[l[i].A] = true
		}
		if is[i] && f.b {
			is[l[i].B] = true
		}
	}
	return is
}

// Nodes that are no part of the root may be any others.
func TestP157Others(t *testing.T) {
	changed := 0
	stories(1571, 3000, func(d *dice, s story) {
		want := told(t, s.l, s.channels, s.trace)
		l := slices.Clone(s.l)
		for i, is := range parts(l) {
			if !is {
				l[i] = d.node(i, len(s.channels))
				changed++
			}
		}
		if got := told(t, l, s.channels, s.trace); !slices.Equal(got, want) {
			t.Fatalf("%v: %s; %v: %s", s.l, digits(want), l, digits(got))
		}
	})
	if changed < 1000 {
		t.Errorf("only %d others were changed", changed)
	}
}

// One more node behind the root, and the root is another one; what it was made of tells the same in another place.
func TestP157Moved(t *testing.T) {
	stories(1572, 2000, func(d *dice, s story) {
		if len(s.l) == 32 {
			return
		}
		l := []api.Node{d.node(0, len(s.channels))}
		for _, x := range s.l {
			f, _ := fieldsOf(x.Op)
			if f.a {
				x.A++
			}
			if f.b {
				x.B++
			}
			l = append(l, x)
		}
		got, want := told(t, l, s.channels, s.trace), told(t, s.l, s.channels, s.trace)
		if !slices.Equal(got, want) {
			t.Fatalf("%v: %s, behind one more: %s", s.l, digits(want), digits(got))
		}
	})
}

// What is handed in is left as it is, its spare room too.
func TestP153LeftAlone(t *testing.T) {
	stories(1530, 500, func(d *dice, s story) {
		l := append(slices.Clone(s.l), api.Node{Op: 99})
		channels := append(slices.Clone(s.channels), api.Channel{Low: 99})
		flat := make([][]api.Reading, len(s.trace))
		for i, row := range s.trace {
			flat[i] = append(slices.Clone(row), api.Reading{State: 99})
		}
		trace := make([][]api.Reading, len(flat), len(flat)+1)
		for i := range flat {
			trace[i] = flat[i][:len(s.channels)]
		}
		told(t, l[:len(s.l)], channels[:len(s.channels)], trace)
		Check(l[:len(s.l)], len(s.channels))
		Memory(l[:len(s.l)])
		if !slices.Equal(l[:len(s.l)], s.l) || l[len(s.l)].Op != 99 {
			t.Fatalf("the nodes were changed: %v", l)
		}
		if !slices.Equal(channels[:len(s.channels)], s.channels) || channels[len(s.channels)].Low != 99 {
			t.Fatalf("the channels were changed: %v", channels)
		}
		for i, row := range flat {
			if !slices.Equal(row[:len(s.channels)], s.trace[i]) || row[len(s.channels)].State != 99 || len(trace[i]) != len(s.channels) {
				t.Fatalf("the trace was changed: %v", flat)
			}
		}
		if trace[:len(trace)+1][len(trace)] != nil {
			t.Fatalf("the trace's spare room was changed")
		}
	})
}

// What one call has found is not remembered by the next one.
func TestP153NotKept(t *testing.T) {
	stories(1531, 500, func(d *dice, s story) {
		told(t, s.l, s.channels, s.trace)
		for i := range s.trace {
			for c := range s.trace[i] {
				s.trace[i][c] = d.reading()
			}
		}
		copy(s.channels, d.channels(len(s.channels)))
		copy(s.l, d.formula(len(s.l), len(s.channels)))
		got, want := told(t, s.l, s.channels, s.trace), table(s.l, s.channels, s.trace)[s.root()]
		if !slices.Equal(got, want) {
			t.Fatalf("%v over %v: %s, want %s", s.l, s.trace, digits(got), digits(want))
		}
	})
}
