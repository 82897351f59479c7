package formula

import (
	"slices"
	"testing"
	"time"

	"handbell/api"
)

func TestP152Value(t *testing.T) {
	for _, v := range edges() {
		for _, state := range edges() {
			r := api.Reading{State: state, Value: v}
			want, is := 0, state == fresh || state == held
			if is {
				want = v
			}
			if got, ok := Value(r); got != want || ok != is {
				t.Errorf("Value(%v) = %d, %v, want %d, %v", r, got, ok, want, is)
			}
		}
	}
	for _, state := range []int{none, stale, off} {
		if got, ok := Value(api.Reading{State: state, Value: 3}); got != 0 || ok {
			t.Errorf("Value in %d = %d, %v", state, got, ok)
		}
	}
}

// atoms holds what Atom says.
func atoms(t *testing.T, x api.Node, c api.Channel, r api.Reading, want bool) {
	t.Helper()
	if is, e := Atom(x, c, r); is != want || e != api.OK {
		t.Fatalf("Atom(%v, %v, %v) = %v, %d, want %v", x, c, r, is, e, want)
	}
}

func TestP152AtomByHand(t *testing.T) {
	c := api.Channel{Low: 1000, High: 5000}
	at := func(v int) api.Reading { return api.Reading{State: fresh, Value: v} }
	for _, k := range []struct {
		x    api.Node
		v    int
		want bool
	}{
		{api.Node{Op: 1, N: 7}, 7, false}, {api.Node{Op: 1, N: 7}, 8, true}, {api.Node{Op: 1, N: 7}, 6, false},
		{api.Node{Op: 2, N: 7}, 7, false}, {api.Node{Op: 2, N: 7}, 6, true}, {api.Node{Op: 2, N: 7}, 8, false},
		{api.Node{Op: 3}, 5000, false}, {api.Node{Op: 3}, 5001, true}, {api.Node{Op: 3}, 4999, false}, {api.Node{Op: 3}, 1000, false},
		{api.Node{Op: 4}, 1000, false}, {api.Node{Op: 4}, 999, true}, {api.Node{Op: 4}, 1001, false}, {api.Node{Op: 4}, 5000, false},
		{api.Node{Op: 5}, 0, true}, {api.Node{Op: 5}, -1, true}, {api.Node{Op: 5}, 5000, true},
	} {
		atoms(t, k.x, c, at(k.v), k.want)
		atoms(t, k.x, c, api.Reading{State: held, Value: k.v}, k.want)
		for _, state := range []int{none, stale, off, -1, 5} {
			atoms(t, k.x, c, api.Reading{State: state, Value: k.v}, false)
		}
	}
}

// All numbers against each other; A, B and whatever else the channel has count for nothing, and N and the limits may be any.
func TestP152AtomEdges(t *testing.T) {
	l := edges()
	for _, v := range l {
		for _, bound := range l {
			for op := 1; op <= 5; op++ {
				for _, state := range []int{none, fresh, held, stale, off} {
					r := api.Reading{State: state, Value: v}
					x := api.Node{Op: op, N: bound}
					c := api.Channel{Low: bound, High: -bound}
					atoms(t, x, c, r, atomHolds(x, c, r))
					c = api.Channel{Low: -bound, High: bound}
					atoms(t, x, c, r, atomHolds(x, c, r))
					x.A, x.B = bound, v
					c.Port, c.Handle, c.Filter = v, bound, api.Filter{Kind: v, N: v, Stale: v}
					atoms(t, x, c, r, atomHolds(x, c, r))
				}
			}
		}
	}
}

func TestP152NoAtom(t *testing.T) {
	for _, op := range append(edges(), 6, 11, 12, 13) {
		if 1 <= op && op <= 5 {
			continue
		}
		for _, state := range []int{none, fresh} {
			for range 2 {
				is, e := Atom(api.Node{Op: op}, api.Channel{Low: 9, High: -9}, api.Reading{State: state, Value: 3})
				if is || e != api.ErrForm {
					t.Errorf("Atom of Op %d = %v, %d", op, is, e)
				}
			}
		}
	}
}

func TestP153Examples(t *testing.T) {
	channels := []api.Channel{{Low: 1000, High: 5000}}
	trace := [][]api.Reading{{{State: fresh, Value: 2000}}, {{State: fresh, Value: 6000}}, {{State: none}}, {{State: fresh, Value: 500}}}
	for _, c := range []struct {
		l    []api.Node
		want string
	}{
		{[]api.Node{{Op: 3}}, "0100"},
		{[]api.Node{{Op: 4}}, "0001"},
		{[]api.Node{{Op: 5}}, "1101"},
		{[]api.Node{{Op: 1, N: 1999}}, "1100"},
		{[]api.Node{{Op: 3}, {Op: 10, N: 1}}, "0110"},
		{[]api.Node{{Op: 5}, {Op: 11, N: 1}}, "1100"},
		{[]api.Node{{Op: 3}, {Op: 9}}, "0010"},
		{[]api.Node{{Op: 5}, {Op: 3}, {Op: 12, A: 0, B: 1}}, "0100"},
		{[]api.Node{{Op: 5}, {Op: 6}, {Op: 3}, {Op: 12, A: 1, B: 2}}, "0110"},
		// (not known) since high, and not (known since high).
		{[]api.Node{{Op: 5}, {Op: 3}, {Op: 12, A: 0, B: 1}, {Op: 6, A: 2}}, "1011"},
		{[]api.Node{{}}, "1111"},
	} {
		if got := digits(told(t, c.l, channels, trace)); got != c.want {
			t.Errorf("%v: %s, want %s", c.l, got, c.want)
		}
	}
}

// A channel of which above 0 holds at the ticks with 1.
func ones(rows ...string) ([]api.Channel, [][]api.Reading) {
	trace := make([][]api.Reading, len(rows[0]))
	for _, row := range rows {
		for t, c := range row {
			trace[t] = append(trace[t], api.Reading{State: fresh, Value: int(c - '0')})
		}
	}
	return make([]api.Channel, len(rows)), trace
}

// above holds where a channel of ones has 1.
func above(channel int) api.Node { return api.Node{Op: 1, A: channel} }

// All traces of two channels of up to six ticks, of each operator.
func TestP153Exhaustive(t *testing.T) {
	for ticks := 1; ticks <= 6; ticks++ {
		for bits := range 1 << (2 * ticks) {
			trace := make([][]api.Reading, ticks)
			for i := range trace {
				trace[i] = []api.Reading{{State: fresh, Value: bits >> (2 * i) & 1}, {State: held, Value: bits >> (2*i + 1) & 1}}
			}
			channels := make([]api.Channel, 2)
			for op := 6; op <= 12; op++ {
				for n := range 7 {
					x := api.Node{Op: op, A: 0, N: n}
					f, _ := fieldsOf(op)
					if n > f.great {
						break
					}
					if f.b {
						x.B = 1
					}
					l := []api.Node{above(0), above(1), x}
					got, want := told(t, l, channels, trace), table(l, channels, trace)[2]
					if !slices.Equal(got, want) {
						t.Fatalf("%v over %v: %s, want %s", l, trace, digits(got), digits(want))
					}
				}
			}
		}
	}
}

// The windows' ends, by hand: N ticks ahead of the tick still count, one more does not.
func TestP153Windows(t *testing.T) {
	for _, n := range []int{0, 1, 2, 3, 10, 63, 64} {
		for _, first := range []int{0, 1, 5} {
			trace := make([][]api.Reading, 150)
			for i := range trace {
				trace[i] = []api.Reading{{State: fresh}}
			}
			trace[first][0].Value = 1
			channels := make([]api.Channel, 1)
			once := told(t, []api.Node{above(0), {Op: 10, N: n}}, channels, trace)
			hist := told(t, []api.Node{above(0), {Op: 6}, {Op: 11, A: 1, N: n}}, channels, trace)
			for i := range trace {
				want := first <= i && i <= first+n
				if once[i] != want || hist[i] == want {
					t.Fatalf("once %d of a one at %d: at %d %v; hist of none: %v", n, first, i, once[i], hist[i])
				}
			}
		}
	}
}

func TestP153Sinces(t *testing.T) {
	for _, c := range []struct{ a, b, want string }{
		{"0000", "0000", "0000"},
		{"1111", "0000", "0000"},
		{"0000", "1000", "1000"},
		{"0111", "1000", "1111"},
		{"1011", "1000", "1000"},
		{"0010", "0101", "0111"},
		{"111111", "010000", "011111"},
		{"110111", "010100", "010111"},
		{"000000", "111111", "111111"},
	} {
		channels, trace := ones(c.a, c.b)
		got := digits(told(t, []api.Node{above(0), above(1), {Op: 12, A: 0, B: 1}}, channels, trace))
		if got != c.want {
			t.Errorf("%s since %s: %s, want %s", c.a, c.b, got, c.want)
		}
	}
}

// Each atom asks for its own channel, its limits and its reading.
func TestP153Channels(t *testing.T) {
	channels := make([]api.Channel, 8)
	row := make([]api.Reading, 8)
	for at := range 8 {
		for c := range channels {
			channels[c] = api.Channel{Low: -100, High: 100}
			row[c] = api.Reading{State: stale, Value: 1}
		}
		row[at] = api.Reading{State: held, Value: 1}
		channels[at] = api.Channel{Low: 2, High: 0}
		for c := range 8 {
			for op := 1; op <= 5; op++ {
				x := api.Node{Op: op, A: c}
				if op == 2 {
					x.N = 2
				}
				if is, e := Holds([]api.Node{x}, channels, [][]api.Reading{row}, 0); is != (c == at) || e != api.OK {
					t.Errorf("%v, known is %d: %v, %d", x, at, is, e)
				}
			}
		}
	}
}

func TestP153Random(t *testing.T) {
	stories(153, 20000, func(d *dice, s story) {
		got, want := told(t, s.l, s.channels, s.trace), table(s.l, s.channels, s.trace)[s.root()]
		if !slices.Equal(got, want) {
			t.Fatalf("%v over %v, %v: %s, want %s", s.l, s.channels, s.trace, digits(got), digits(want))
		}
	})
}

func TestP153Refused(t *testing.T) {
	row := []api.Reading{{}, {}}
	good := [][]api.Reading{row, row, row}
	for _, c := range []struct {
		l        []api.Node
		channels int
		trace    [][]api.Reading
		tick     int
		want     api.Errno
	}{
		{make([]api.Node, 33), 9, [][]api.Reading{nil}, -1, api.ErrMany},
		{make([]api.Node, 1), 9, [][]api.Reading{make([]api.Reading, 9)}, 0, api.ErrArg},
		{nil, 9, nil, -1, api.ErrArg},
		{nil, 2, [][]api.Reading{nil}, -1, api.ErrForm},
		{[]api.Node{{Op: 5, A: 2}}, 2, [][]api.Reading{nil}, -1, api.ErrForm},
		{make([]api.Node, 1), 2, [][]api.Reading{nil}, 0, api.ErrArg},
		{make([]api.Node, 1), 2, [][]api.Reading{nil}, -1, api.ErrArg},
		{make([]api.Node, 1), 2, [][]api.Reading{row, row, row[:1]}, 0, api.ErrArg},
		{make([]api.Node, 1), 2, [][]api.Reading{row, {{}, {}, {}}, row}, 0, api.ErrArg},
		{make([]api.Node, 1), 2, [][]api.Reading{row[:1], row}, 1, api.ErrArg},
		{make([]api.Node, 1), 2, [][]api.Reading{row[:1], row}, 2, api.ErrArg},
		{make([]api.Node, 1), 0, [][]api.Reading{row[:1]}, 0, api.ErrArg},
		{make([]api.Node, 1), 2, good, 3, api.ErrRange},
		{make([]api.Node, 1), 2, good, -1, api.ErrRange},
		{make([]api.Node, 1), 2, nil, 0, api.ErrRange},
		{make([]api.Node, 1), 0, nil, 0, api.ErrRange},
		{make([]api.Node, 1), 0, [][]api.Reading{}, 0, api.ErrRange},
	} {
		for range 2 {
			if is, e := Holds(c.l, make([]api.Channel, c.channels), c.trace, c.tick); is || e != c.want {
				t.Errorf("Holds(%v, %d channels, %v, %d) = %v, %d, want %d", c.l, c.channels, c.trace, c.tick, is, e, c.want)
			}
		}
	}
	for _, tick := range edges() {
		want := api.ErrRange
		if 0 <= tick && tick < 3 {
			want = api.OK
		}
		if is, e := Holds(make([]api.Node, 1), make([]api.Channel, 2), good, tick); is != (want == api.OK) || e != want {
			t.Errorf("at %d: %v, %d", tick, is, e)
		}
	}
}

// Without channels there are still ticks, and rows without readings.
func TestP153NoChannels(t *testing.T) {
	trace := [][]api.Reading{nil, {}, nil}
	for _, c := range []struct {
		l    []api.Node
		want string
	}{
		{[]api.Node{{}}, "111"},
		{[]api.Node{{}, {Op: 9}}, "011"},
		{[]api.Node{{}, {Op: 9}, {Op: 9, A: 1}}, "001"},
		{[]api.Node{{}, {Op: 6}}, "000"},
	} {
		if got := digits(told(t, c.l, nil, trace)); got != c.want {
			t.Errorf("%v: %s, want %s", c.l, got, c.want)
		}
	}
}

// Limits and values beyond all bounds are held against each other as they are.
func TestP153AnyNumbers(t *testing.T) {
	for _, v := range edges() {
		for _, bound := range edges() {
			channels := []api.Channel{{Low: bound, High: bound}}
			trace := [][]api.Reading{{{State: fresh, Value: v}}}
			for op, want := range map[int]bool{3: v > bound, 4: v < bound, 5: true} {
				if is, e := Holds([]api.Node{{Op: op}}, channels, trace, 0); is != want || e != api.OK {
					t.Fatalf("Op %d of %d, bound %d: %v, %d", op, v, bound, is, e)
				}
			}
		}
	}
}

// within fails if something takes far longer than it should.
func within(t *testing.T, what string, f func()) {
	t.Helper()
	done := make(chan bool)
	go func() {
		defer close(done)
		f()
	}()
	select {
	case <-done:
	case <-time.After(time.Minute):
		t.Fatalf("%s: it takes too long", what)
	}
}

// Parts that are asked for twice, by nodes that are asked for twice, and so on: told in time, since what was found is remembered.
func TestP153Shared(t *testing.T) {
	channels, trace := ones("1101")
	for _, op := range []int{7, 8, 12} {
		l := []api.Node{above(0)}
		for i := range 31 {
			l = append(l, api.Node{Op: op, A: i, B: i})
		}
		within(t, "shared parts", func() {
			if got := digits(told(t, l, channels, trace)); got != "1101" {
				t.Errorf("Op %d: %s", op, got)
			}
		})
	}
}

// Windows within windows, over a trace that is longer than all of them.
func TestP153Nested(t *testing.T) {
	row := make([]byte, 31*64+10)
	for i := range row {
		row[i] = '0'
	}
	row[0] = '1'
	channels, trace := ones(string(row))
	l := []api.Node{above(0)}
	for i := range 31 {
		l = append(l, api.Node{Op: 10, A: i, N: 64})
	}
	within(t, "windows", func() {
		for tick, want := range map[int]bool{0: true, 31 * 64: true, 31*64 + 1: false} {
			if is, e := Holds(l, channels, trace, tick); is != want || e != api.OK {
				t.Errorf("at %d: %v, %d", tick, is, e)
			}
		}
	})
}

// A long past is gone back over without being deep, and one since within another goes over it once.
func TestP153Long(t *testing.T) {
	const ticks = 200000
	readings := make([]api.Reading, ticks)
	trace := make([][]api.Reading, ticks)
	for i := range trace {
		readings[i] = api.Reading{State: fresh, Value: 1}
		trace[i] = readings[i : i+1]
	}
	readings[0].Value = 2
	channels := make([]api.Channel, 1)
	l := []api.Node{{Op: 5}, {Op: 1, N: 1}}
	for i := range 4 {
		a := i + 1
		if i == 0 {
			a = 0
		}
		l = append(l, api.Node{Op: 12, A: a, B: 1})
	}
	within(t, "a long trace", func() {
		if is, e := Holds(l, channels, trace, ticks-1); !is || e != api.OK {
			t.Errorf("%v, %d", is, e)
		}
		readings[0].Value = 1
		if is, e := Holds(l, channels, trace, ticks-1); is || e != api.OK {
			t.Errorf("without: %v, %d", is, e)
		}
	})
}
