package rule

import (
	"slices"
	"testing"

	"handbell/api"
	"handbell/formula"
)

// P17.1: New.

func TestP171Refused(t *testing.T) {
	deep := make([]api.Node, 33)
	for _, c := range []struct {
		l        []api.Node
		channels int
		want     api.Errno
	}{
		{nil, 0, api.ErrForm},
		{[]api.Node{}, 8, api.ErrForm},
		{nil, 9, api.ErrArg},
		{make([]api.Node, 1), 9, api.ErrArg},
		{[]api.Node{{Op: 13}}, 9, api.ErrArg},
		{deep, 0, api.ErrMany},
		{deep, 9, api.ErrMany},
		{[]api.Node{{Op: 3}}, 0, api.ErrForm},
		{[]api.Node{{Op: 5, A: 2}}, 2, api.ErrForm},
		{[]api.Node{{Op: 6}}, 1, api.ErrForm},
		{[]api.Node{{}, {Op: 7, A: 1, B: 1}}, 1, api.ErrForm},
		{[]api.Node{{}, {Op: 10, N: 65}}, 1, api.ErrForm},
		{[]api.Node{{}, {Op: 11, N: -1}}, 1, api.ErrForm},
		{[]api.Node{{Op: 1, N: most + 1}}, 1, api.ErrForm},
		{[]api.Node{{Op: 13}, {}}, 1, api.ErrForm},
	} {
		for range 2 {
			if m, e := New(c.l, make([]api.Channel, c.channels)); m != nil || e != c.want {
				t.Errorf("New(%v) of %d channels = %v, %d, want %d", c.l, c.channels, m, e, c.want)
			}
		}
	}
}

// Whatever Check says of a formula and so many channels, New says.
func TestP171Check(t *testing.T) {
	refused := 0
	try := func(l []api.Node, channels int) {
		want := formula.Check(l, channels)
		m, e := New(l, make([]api.Channel, channels))
		if e != want || (m != nil) != (want == api.OK) {
			t.Fatalf("New(%v) of %d channels = %v, %d, want %d", l, channels, m, e, want)
		}
		if want != api.OK {
			refused++
		}
	}
	d := &dice{171}
	for range 20000 {
		channels := d.below(10)
		l := d.formula(1+d.below(34), channels, allOps())
		try(l, channels)
		for _, field := range []int{0, 1, 2, 3} {
			other, at := slices.Clone(l), d.below(len(l))
			v := pick(d, edges()...)
			x := &other[at]
			*[]*int{&x.Op, &x.A, &x.B, &x.N}[field] = v
			try(other, channels)
		}
	}
	if refused < 10000 {
		t.Errorf("only %d were refused", refused)
	}
}

// The greatest machine that may be, and the least one.
func TestP171Sizes(t *testing.T) {
	for channels := range 9 {
		for n := 1; n <= 32; n++ {
			l := make([]api.Node, n)
			m := made(t, l, make([]api.Channel, channels))
			if !stepped(t, m, make([]api.Reading, channels)) {
				t.Errorf("%d nodes, %d channels: true does not hold", n, channels)
			}
		}
	}
}

// A machine that was made has made no step, however many others have made some of the same formula.
func TestP171New(t *testing.T) {
	channels, trace := ones("1000")
	l := []api.Node{above(0), {Op: 9}}
	for range 3 {
		if got := digits(steps(t, l, channels, trace)); got != "0100" {
			t.Errorf("%s", got)
		}
	}
}

// Nodes and channels are copied: what is done to the lists afterwards changes nothing, and they are not changed.
func TestP171Copied(t *testing.T) {
	stories(1711, 3000, func(d *dice, s story) {
		// Spare room behind the lists, which nobody may touch.
		mark, place := api.Node{Op: 99}, api.Channel{Port: 99}
		nodes := append(slices.Clone(s.l), mark)
		channels := append(slices.Clone(s.channels), place)
		m := made(t, nodes[:len(s.l)], channels[:len(s.channels)])
		if !slices.Equal(nodes, append(slices.Clip(s.l), mark)) || !slices.Equal(channels, append(slices.Clip(s.channels), place)) {
			t.Fatalf("%v, %v became %v, %v", s.l, s.channels, nodes, channels)
		}
		want := wanted(s.l, s.channels, s.trace)
		for tick, row := range s.trace {
			for i := range nodes {
				nodes[i] = api.Node{Op: d.below(20) - 3, A: d.below(9), B: d.below(9), N: d.below(70)}
			}
			for i := range channels {
				channels[i] = api.Channel{Low: d.below(9) - 4, High: d.below(9) - 4}
			}
			if is := stepped(t, m, row); is != want[tick] {
				t.Fatalf("%v over %v, %v at %d: %v", s.l, s.channels, s.trace, tick, is)
			}
			if m.Words() != memory(s.l) {
				t.Fatalf("%v: Words %d", s.l, m.Words())
			}
		}
	})
}

// P17.2: Step.

func TestP172Examples(t *testing.T) {
	channels := []api.Channel{{High: 5000}}
	at := func(v int) []api.Reading { return []api.Reading{{State: fresh, Value: v}} }
	trace := [][]api.Reading{at(2000), at(6000), {{State: none}}, at(500), at(500)}
	for _, c := range []struct {
		l     []api.Node
		want  string
		words int
	}{
		{[]api.Node{{Op: 3}, {Op: 10, N: 2}}, "01110", 1},
		{[]api.Node{{Op: 5}, {Op: 3}, {Op: 12, A: 0, B: 1}}, "01000", 1},
		{[]api.Node{{Op: 3}, {Op: 9}, {Op: 6, A: 1}}, "11011", 1},
		{[]api.Node{{Op: 3}, {Op: 5}, {Op: 7, A: 0, B: 1}}, "01000", 0},
	} {
		if got := digits(steps(t, c.l, channels, trace)); got != c.want {
			t.Errorf("%v: %s, want %s", c.l, got, c.want)
		}
		if got := made(t, c.l, channels).Words(); got != c.words {
			t.Errorf("%v: Words %d, want %d", c.l, got, c.words)
		}
	}
}

func TestP172None(t *testing.T) {
	var zero Machine
	for _, m := range []*Machine{nil, {}, &zero, new(Machine)} {
		for _, row := range [][]api.Reading{nil, {}, make([]api.Reading, 1), make([]api.Reading, 8), make([]api.Reading, 9)} {
			for range 2 {
				if is, e := m.Step(row); is || e != api.ErrNil {
					t.Errorf("Step(%v) of none = %v, %d", row, is, e)
				}
			}
		}
	}
}

// As many readings as there are channels, neither fewer nor more.
func TestP172Readings(t *testing.T) {
	for channels := range 9 {
		m := made(t, make([]api.Node, 1), make([]api.Channel, channels))
		for readings := range 20 {
			want := api.ErrArg
			if readings == channels {
				want = api.OK
			}
			if is, e := m.Step(make([]api.Reading, readings)); is != (want == api.OK) || e != want {
				t.Errorf("%d readings of %d channels: %v, %d, want %d", readings, channels, is, e, want)
			}
		}
	}
}

// Without channels there are still ticks.
func TestP172NoChannels(t *testing.T) {
	trace := [][]api.Reading{nil, {}, nil, {}}
	for _, c := range []struct {
		l    []api.Node
		want string
	}{
		{[]api.Node{{}}, "1111"},
		{[]api.Node{{}, {Op: 9}}, "0111"},
		{[]api.Node{{}, {Op: 9}, {Op: 9, A: 1}}, "0011"},
		{[]api.Node{{}, {Op: 9}, {Op: 6, A: 1}}, "1000"},
		{[]api.Node{{}, {Op: 9}, {Op: 6, A: 1}, {Op: 10, A: 2, N: 2}}, "1110"},
		{[]api.Node{{}, {Op: 9}, {Op: 11, A: 1, N: 1}}, "0011"},
		{[]api.Node{{}, {Op: 9}, {Op: 6, A: 1}, {Op: 12, A: 0, B: 2}}, "1111"},
	} {
		if got := digits(steps(t, c.l, nil, trace)); got != c.want {
			t.Errorf("%v: %s, want %s", c.l, got, c.want)
		}
	}
}

// The windows' ends, by hand: N ticks behind a one still count, one more does not; a second one begins the window anew.
func TestP172Windows(t *testing.T) {
	for _, n := range []int{0, 1, 2, 3, 10, 63, 64} {
		for _, first := range []int{0, 1, 5} {
			for _, again := range []int{first, first + 1, first + n, first + n + 1, first + n + 2} {
				row := slices.Repeat([]byte{'0'}, 220)
				row[first], row[again] = '1', '1'
				channels, trace := ones(string(row))
				once := steps(t, []api.Node{above(0), {Op: 10, N: n}}, channels, trace)
				hist := steps(t, []api.Node{above(0), {Op: 6}, {Op: 11, A: 1, N: n}}, channels, trace)
				for i := range trace {
					want := first <= i && i <= first+n || again <= i && i <= again+n
					if once[i] != want || hist[i] == want {
						t.Fatalf("once %d of ones at %d, %d: at %d %v; hist of none: %v", n, first, again, i, once[i], hist[i])
					}
				}
			}
		}
	}
}

func TestP172Sinces(t *testing.T) {
	for _, c := range []struct{ a, b, want string }{
		{"0000", "0000", "0000"},
		{"1111", "0000", "0000"},
		{"0000", "1000", "1000"},
		{"0111", "1000", "1111"},
		{"1011", "1000", "1000"},
		{"0010", "0101", "0111"},
		{"111111", "010000", "011111"},
		{"110111", "010100", "010111"},
		{"000000", "111111", "111111"},
	} {
		channels, trace := ones(c.a, c.b)
		got := digits(steps(t, []api.Node{above(0), above(1), {Op: 12, A: 0, B: 1}}, channels, trace))
		if got != c.want {
			t.Errorf("%s since %s: %s, want %s", c.a, c.b, got, c.want)
		}
	}
}

// Each atom asks for its own channel, its limits and its reading.
func TestP172Channels(t *testing.T) {
	channels := make([]api.Channel, 8)
	row := make([]api.Reading, 8)
	for at := range 8 {
		for c := range channels {
			channels[c] = api.Channel{Low: -100, High: 100}
			row[c] = api.Reading{State: stale, Value: 1}
		}
		row[at] = api.Reading{State: held, Value: 1}
		channels[at] = api.Channel{Low: 2, High: 0}
		for c := range 8 {
			for op := 1; op <= 5; op++ {
				x := api.Node{Op: op, A: c}
				if op == 2 {
					x.N = 2
				}
				if is := stepped(t, made(t, []api.Node{x}, channels), row); is != (c == at) {
					t.Errorf("%v, known is %d: %v", x, at, is)
				}
			}
		}
	}
}

// Limits and values beyond all bounds are held against each other as they are.
func TestP172AnyNumbers(t *testing.T) {
	for _, v := range edges() {
		for _, bound := range edges() {
			channels := []api.Channel{{Low: bound, High: bound}}
			for _, state := range []int{none, fresh, held, stale, off, -1, 5} {
				known := state == fresh || state == held
				row := []api.Reading{{State: state, Value: v}}
				for op, want := range map[int]bool{3: v > bound, 4: v < bound, 5: true} {
					if is := stepped(t, made(t, []api.Node{{Op: op}}, channels), row); is != (known && want) {
						t.Fatalf("Op %d of %v, bound %d: %v", op, row, bound, is)
					}
				}
			}
		}
	}
}

// What is handed in is not changed and not kept, its spare room neither.
func TestP172RowsNotKept(t *testing.T) {
	stories(1721, 3000, func(d *dice, s story) {
		m := made(t, s.l, s.channels)
		want := wanted(s.l, s.channels, s.trace)
		n := len(s.channels)
		room := make([]api.Reading, n+1)
		for tick, row := range s.trace {
			copy(room, row)
			room[n] = api.Reading{State: 77, Value: tick}
			if is := stepped(t, m, room[:n]); is != want[tick] {
				t.Fatalf("%v over %v, %v at %d: %v", s.l, s.channels, s.trace, tick, is)
			}
			if !slices.Equal(room[:n], row) || room[n] != (api.Reading{State: 77, Value: tick}) {
				t.Fatalf("%v became %v", row, room)
			}
			copy(room, d.row(n))
		}
	})
}

// P17.3: Words.

func TestP173None(t *testing.T) {
	for _, m := range []*Machine{nil, {}} {
		for range 2 {
			if n := m.Words(); n != 0 {
				t.Errorf("Words of none = %d", n)
			}
		}
	}
}

func TestP173EachOp(t *testing.T) {
	for op := range 13 {
		want := 0
		if op >= 9 {
			want = 1
		}
		if n := made(t, []api.Node{{}, {Op: op}}, make([]api.Channel, 1)).Words(); n != want {
			t.Errorf("Op %d: %d, want %d", op, n, want)
		}
	}
	l := []api.Node{{}}
	for i := range 31 {
		l = append(l, api.Node{Op: 9 + i%4, A: i})
		if n := made(t, l, nil).Words(); n != i+1 {
			t.Errorf("%v: %d, want %d", l, n, i+1)
		}
	}
}

// Also of nodes that are no part of the root, ahead of all steps and behind each of them; and so many numbers are kept.
func TestP173Random(t *testing.T) {
	stories(173, 5000, func(_ *dice, s story) {
		m := made(t, s.l, s.channels)
		want, e := formula.Memory(s.l)
		if e != api.OK || want != memory(s.l) {
			t.Fatalf("Memory(%v) = %d, %d", s.l, want, e)
		}
		kept := 0
		for _, k := range m.keepers {
			if k.step != nil {
				kept++
			}
		}
		if m.Words() != want || kept != want {
			t.Fatalf("%v: Words %d, kept %d, want %d", s.l, m.Words(), kept, want)
		}
		for _, row := range s.trace {
			stepped(t, m, row)
			if m.Words() != want {
				t.Fatalf("%v: Words %d, want %d", s.l, m.Words(), want)
			}
		}
	})
}
