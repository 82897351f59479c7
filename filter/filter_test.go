package filter

import (
	"math"
	"slices"
	"testing"

	"handbell/api"
)

// checks holds what Check and New say of a filter, more than once.
func checks(t *testing.T, f api.Filter, may bool) {
	t.Helper()
	want := api.ErrArg
	if may {
		want = api.OK
	}
	for range 2 {
		if e := Check(f); e != want {
			t.Fatalf("Check(%v) = %d, want %d", f, e, want)
		}
		if task, e := New(f); (task != nil) != may || e != want {
			t.Fatalf("New(%v) = %v, %d, want %d", f, task, e, want)
		}
	}
}

func TestP141Examples(t *testing.T) {
	for _, f := range []api.Filter{{Kind: 0, N: 1, Stale: 5}, {Kind: 1, N: 4, Stale: 5}, {Kind: 4, N: 1, Stale: 5}, {Kind: 5, N: 0, Stale: 5}, {Kind: 5, N: 3, Stale: 5}, {Stale: 0}} {
		checks(t, f, false)
	}
	for _, f := range []api.Filter{{Stale: 2}, {Kind: 4, N: 4, Stale: 9}, {Kind: 1, N: 3, Stale: 9}} {
		checks(t, f, true)
	}
}

// Each Kind with its least and its greatest N, with one beyond each, and with an N that is another Kind's.
func TestP141Edges(t *testing.T) {
	for _, c := range []struct {
		kind   int
		may    []int
		mayNot []int
	}{
		{0, []int{0}, []int{-1, 1, 2, 3, 15, 1000}},
		{1, []int{1, 3, 5, 7, 9, 11, 13, 15}, []int{-15, -3, -2, -1, 0, 2, 4, 6, 8, 10, 12, 14, 16, 17, 19}},
		{2, []int{1, 2, 3, 4, 14, 15}, []int{-15, -1, 0, 16, 17, 1000}},
		{3, []int{1, 2, 15, 16, 500, 999, 1000}, []int{-1000, -1, 0, 1001, 1002, 10000}},
		{4, []int{2, 3, 4, 5, 6, 7, 8}, []int{-8, -2, -1, 0, 1, 9, 10, 15}},
		{-1, nil, []int{-1, 0, 1, 2, 3}},
		{5, nil, []int{-1, 0, 1, 2, 3, 5}},
	} {
		for _, limit := range []int{1, 2, 10, 9999, 10000} {
			for _, n := range c.may {
				checks(t, api.Filter{Kind: c.kind, N: n, Stale: limit}, true)
			}
			for _, n := range c.mayNot {
				checks(t, api.Filter{Kind: c.kind, N: n, Stale: limit}, false)
			}
		}
		for _, limit := range []int{0, 10001, -1} {
			for _, n := range append(c.may, c.mayNot...) {
				checks(t, api.Filter{Kind: c.kind, N: n, Stale: limit}, false)
			}
		}
	}
}

// odd are whole numbers that no field of a filter may be, but for 257, which the N of a slow one and every Stale may.
func odd() []int {
	return []int{math.MinInt, math.MinInt + 1, math.MaxInt, math.MaxInt - 1, -most, most, -1, 1 << 32, 1<<32 + 1, 1<<32 + 3, 1<<16 + 1, 1<<8 + 1, math.MinInt + 3}
}

// The smallest and the greatest int in each field, alone and together.
func TestP141Wrong(t *testing.T) {
	for _, f := range filters(7) {
		for _, x := range odd() {
			checks(t, api.Filter{Kind: x, N: f.N, Stale: f.Stale}, false)
			checks(t, api.Filter{Kind: f.Kind, N: x, Stale: f.Stale}, f.Kind == 3 && x == 1<<8+1)
			checks(t, api.Filter{Kind: f.Kind, N: f.N, Stale: x}, x == 1<<8+1)
			for _, y := range odd()[:4] {
				checks(t, api.Filter{Kind: y, N: x, Stale: f.Stale}, false)
				checks(t, api.Filter{Kind: y, N: f.N, Stale: x}, false)
				checks(t, api.Filter{Kind: f.Kind, N: y, Stale: x}, false)
				checks(t, api.Filter{Kind: x, N: y, Stale: y}, false)
			}
		}
	}
}

func TestP141Words(t *testing.T) {
	for kind := -3; kind <= 8; kind++ {
		for n := -20; n <= 1020; n++ {
			for _, limit := range []int{-1, 0, 1, 50, 10000, 10001} {
				f := api.Filter{Kind: kind, N: n, Stale: limit}
				checks(t, f, mayBeFilter(f))
			}
		}
	}
	for limit := -10; limit <= 10010; limit++ {
		for kind := range 5 {
			f := api.Filter{Kind: kind, N: []int{0, 3, 2, 9, 8}[kind], Stale: limit}
			checks(t, f, mayBeFilter(f))
		}
	}
}

// A new one has heard nothing: it reads none up to its Stale, and is stale behind it.
func TestP141New(t *testing.T) {
	for limit := 1; limit <= 10000; limit++ {
		f := filters(limit)[limit%len(filters(limit))]
		reads(t, f, []step{{0, nil}, {limit, nil}, {limit + 1, nil}, {most, nil}}, api.Reading{}, api.Reading{}, api.Reading{State: stale}, api.Reading{State: stale})
	}
}

func TestP142Examples(t *testing.T) {
	over := api.Real{Kind: api.RealOver}
	reads(t, api.Filter{Stale: 2}, []step{{0, []api.Real{{Mantissa: 366, Exponent: -1}}}, {1, nil}, {2, nil}, {3, nil}, {4, []api.Real{isOff()}}, {5, []api.Real{over}}},
		api.Reading{State: fresh, Value: 36600}, api.Reading{State: held, Value: 36600}, api.Reading{State: held, Value: 36600}, api.Reading{State: stale}, api.Reading{State: off}, api.Reading{State: off})
	reads(t, api.Filter{Kind: 4, N: 4, Stale: 9}, []step{{0, whole(1)}, {8, whole(1, 1)}, {9, whole(0)}},
		api.Reading{}, api.Reading{State: fresh, Value: 75000}, api.Reading{State: fresh, Value: 75000})
	reads(t, api.Filter{Kind: 1, N: 3, Stale: 9}, []step{{0, whole(5, 9, 1)}, {1, []api.Real{isOff()}}, {2, whole(7)}},
		api.Reading{State: fresh, Value: 5000}, api.Reading{State: off}, api.Reading{State: fresh, Value: 7000})
}

// beyond are ticks that there are not.
func beyond() []int {
	return []int{-1, -2, -10000, -most, -most - 1, math.MinInt, math.MinInt + 1, most + 1, most + 2, 1 << 32, 1<<32 + 7, 1 << 40, math.MaxInt, math.MaxInt - 1}
}

// wrongReals are those that may not be.
func wrongReals() []api.Real {
	var out []api.Real
	for _, m := range []int{8388606, 8388607, 8388608, -8388606, -8388607, -8388608, most, math.MinInt, math.MaxInt} {
		out = append(out, api.Real{Mantissa: m}, api.Real{Mantissa: m, Exponent: -3})
	}
	for _, e := range []int{128, -129, 1000, 1<<8 + 1, 1 << 32, math.MinInt, math.MaxInt} {
		out = append(out, api.Real{Mantissa: 1, Exponent: e}, api.Real{Exponent: e})
	}
	for kind := 1; kind <= 5; kind++ {
		out = append(out, api.Real{Kind: kind, Mantissa: 1}, api.Real{Kind: kind, Exponent: -1}, api.Real{Kind: kind, Mantissa: math.MinInt, Exponent: math.MaxInt})
	}
	for _, kind := range []int{-1, 6, 7, 1<<8 + 2, 1<<32 + 2, math.MinInt, math.MaxInt} {
		out = append(out, api.Real{Kind: kind}, api.Real{Kind: kind, Mantissa: 5})
	}
	return out
}

// edgeReals are those that may just be.
func edgeReals() []api.Real {
	out := append(others(), isOff())
	for _, m := range []int{8388605, -8388605, 0, 1, -1} {
		for _, e := range []int{-128, -4, -3, 0, 3, 127} {
			out = append(out, api.Real{Mantissa: m, Exponent: e})
		}
	}
	return out
}

// One that is none refuses everything, also what is wrong in other ways, again and again.
func TestP142None(t *testing.T) {
	var nobody *Task
	for _, task := range []*Task{nobody, {}, new(Task)} {
		for range 3 {
			for _, tick := range append(beyond(), 0, 1, 7, most) {
				for _, l := range [][]api.Real{nil, {}, whole(1), {isOff()}, wrongReals()[:1], make([]api.Real, 64), make([]api.Real, 65)} {
					refused(t, task, api.ErrNil, tick, l)
				}
			}
		}
	}
}

// Ticks that there are not, and those up to that of the last step.
func TestP142OutOfRange(t *testing.T) {
	for _, limit := range []int{1, 10000} {
		for _, f := range filters(limit) {
			task := made(t, f)
			for _, tick := range beyond() {
				refused(t, task, api.ErrRange, tick, nil)
			}
			for _, tick := range []int{0, 1, 2, 5, limit + 7, 36600, most - 1, most} {
				read(t, task, step{tick, whole(1)})
				for _, no := range append(beyond(), tick, tick-1, tick/2, 0) {
					refused(t, task, api.ErrRange, no, nil)
					refused(t, task, api.ErrRange, no, whole(2))
				}
			}
		}
	}
}

// A tick is the last one behind every step that is not refused, also if nothing, or nothing that counts, is heard.
func TestP142SilentSteps(t *testing.T) {
	for _, f := range filters(3) {
		for _, l := range [][]api.Real{nil, {}, others(), {isOff()}} {
			task := made(t, f)
			for _, tick := range []int{0, 1, 4, 9, 10} {
				read(t, task, step{tick, l})
				refused(t, task, api.ErrRange, tick, l)
				refused(t, task, api.ErrRange, tick-1, l)
			}
		}
	}
}

func TestP142FirstAndLastTick(t *testing.T) {
	for _, limit := range []int{1, 2, 10000} {
		for _, f := range filters(limit) {
			for _, steps := range [][]step{{{0, whole(3)}, {most, whole(4)}}, {{0, nil}, {most, nil}}, {{most, whole(5, 6)}}, {{most, []api.Real{isOff()}}}, {{most - 1, whole(1)}, {most, whole(1)}}, {{most - limit, whole(2)}, {most, nil}}, {{most - limit - 1, whole(2)}, {most, nil}}} {
				agrees(t, f, steps)
				task := made(t, f)
				for _, s := range steps {
					read(t, task, s)
				}
				refused(t, task, api.ErrRange, most, nil)
				refused(t, task, api.ErrRange, most+1, nil)
			}
		}
	}
}

// 64 reals may be heard at a tick, and are all heard; more may not.
func TestP142Many(t *testing.T) {
	d := dice{142}
	for _, f := range filters(4) {
		var l []api.Real
		for range 66 {
			l = append(l, d.number())
		}
		task := made(t, f)
		for _, many := range []int{65, 66} {
			refused(t, task, api.ErrMany, 0, l[:many])
		}
		refused(t, task, api.ErrMany, 0, make([]api.Real, 1000))
		agrees(t, f, []step{{0, l[:64]}, {1, l[2:66]}, {2, l[:63]}, {3, nil}, {4, []api.Real{}}})
	}
}

// Nothing heard may be nil or not.
func TestP142Empty(t *testing.T) {
	for _, f := range filters(2) {
		for _, l := range [][]api.Real{nil, {}, make([]api.Real, 0, 100), whole(1, 2, 3)[:0]} {
			reads(t, f, []step{{0, l}, {2, l}, {3, l}}, api.Reading{}, api.Reading{}, api.Reading{State: stale})
		}
	}
}

// A real that may not be, alone, and in front of, between and behind others that may.
func TestP142WrongReals(t *testing.T) {
	for _, f := range filters(5) {
		task := made(t, f)
		for _, x := range wrongReals() {
			refused(t, task, api.ErrArg, 0, []api.Real{x})
			for _, many := range []int{1, 3, 63} {
				good := append(whole(1, 2), isOff())
				for len(good) < many {
					good = append(good, edgeReals()[len(good)%len(edgeReals())])
				}
				for _, at := range []int{0, many / 2, many} {
					refused(t, task, api.ErrArg, 0, slices.Insert(good[:many:many], at, x))
				}
			}
		}
		agrees(t, f, []step{{0, edgeReals()}, {1, nil}})
	}
}

// Each of the reals at the edges may be.
func TestP142EdgeReals(t *testing.T) {
	for _, f := range filters(5) {
		for _, x := range edgeReals() {
			agrees(t, f, []step{{0, []api.Real{x}}, {1, []api.Real{x, x}}, {3, whole(1)}, {4, []api.Real{x}}, {5, nil}})
		}
	}
}

// Of several wrongs the error that is looked for first.
func TestP142FirstError(t *testing.T) {
	wrong := wrongReals()[:1]
	many := append(make([]api.Real, 64), wrong...)
	for _, f := range filters(5) {
		task := made(t, f)
		read(t, task, step{10, whole(1)})
		for _, tick := range append(beyond(), 10, 9, 0) {
			for _, l := range [][]api.Real{nil, wrong, many, make([]api.Real, 65)} {
				refused(t, task, api.ErrRange, tick, l)
			}
		}
		for _, at := range []int{0, 30, 64} {
			l := make([]api.Real, 65)
			l[at] = wrong[0]
			refused(t, task, api.ErrMany, 11, l)
		}
		refused(t, task, api.ErrArg, 11, many[1:])
	}
}

// Nothing heard, at the limit and one behind it: of a new one, behind a number and behind the sensor being off.
func TestP142Limit(t *testing.T) {
	for _, limit := range limits() {
		for _, n := range []int{0, 1, 77} {
			end := api.Reading{State: stale}
			reads(t, api.Filter{Stale: limit}, []step{{limit, nil}, {limit + 1, nil}}, api.Reading{}, end)
			reads(t, api.Filter{Stale: limit}, []step{{n, whole(4)}, {n + limit, nil}, {n + limit + 1, nil}}, api.Reading{State: fresh, Value: 4000}, api.Reading{State: held, Value: 4000}, end)
			reads(t, api.Filter{Stale: limit}, []step{{n, []api.Real{isOff()}}, {n + limit, nil}, {n + limit + 1, nil}}, api.Reading{State: off}, api.Reading{State: off}, end)
		}
		for _, f := range filters(limit) {
			for _, l := range [][]api.Real{nil, whole(4), {isOff()}, others()} {
				agrees(t, f, []step{{5, whole(3)}, {6, whole(5, 2)}, {6 + limit, l}, {7 + limit, l}, {7 + 2*limit, l}, {9 + 3*limit, l}})
				agrees(t, f, []step{{5, whole(3)}, {6, whole(5, 2)}, {7 + limit, l}, {8 + limit, whole(9)}})
			}
		}
	}
}

// A number and off in one tick: the last one counts; what is inside is left alone where that is a number.
func TestP142NumberAndOff(t *testing.T) {
	then := func(l ...api.Real) []api.Real { return l }
	five, nine := api.Real{Mantissa: 5}, api.Real{Mantissa: 9}
	for _, c := range []struct {
		l    []api.Real
		want api.Reading
		next api.Reading
	}{
		{then(nine, isOff()), api.Reading{State: off}, api.Reading{State: fresh, Value: 5000}},
		{then(isOff(), nine), api.Reading{State: fresh, Value: 5000}, api.Reading{State: fresh, Value: 5000}},
		{then(isOff(), nine, isOff()), api.Reading{State: off}, api.Reading{State: fresh, Value: 5000}},
		{then(nine, isOff(), nine), api.Reading{State: fresh, Value: 9000}, api.Reading{State: fresh, Value: 9000}},
		{then(isOff(), others()[0]), api.Reading{State: off}, api.Reading{State: fresh, Value: 5000}},
	} {
		f := api.Filter{Kind: 1, N: 3, Stale: 9}
		reads(t, f, []step{{0, then(five)}, {1, c.l}, {2, then(five)}}, api.Reading{State: fresh, Value: 5000}, c.want, c.next)
		for _, f := range filters(2) {
			agrees(t, f, []step{{0, whole(3)}, {1, c.l}, {2, nil}, {3, whole(1)}, {4, c.l}, {5, c.l}, {8, c.l}, {9, whole(4)}})
		}
	}
}

// At a tick at which the lapse is stale and a number is heard it begins anew, though nobody ever read ReadStale.
func TestP142StaleAndHeard(t *testing.T) {
	for _, limit := range limits() {
		at := 10 + limit
		for _, f := range []api.Filter{{Kind: 1, N: 3, Stale: limit}, {Kind: 2, N: 3, Stale: limit}, {Kind: 3, N: 1, Stale: limit}} {
			reads(t, f, []step{{9, whole(1)}, {10, whole(1)}, {at + 1, whole(7)}}, api.Reading{State: fresh, Value: 1000}, api.Reading{State: fresh, Value: 1000}, api.Reading{State: fresh, Value: 7000})
			if got := readings(t, f, []step{{9, whole(1)}, {10, whole(1)}, {at, whole(7)}}); got[2].Value == 7000 || got[2].State != fresh {
				t.Fatalf("%v: within the limit it has begun anew: %v", f, got)
			}
		}
		f := api.Filter{Kind: 4, N: 8, Stale: limit}
		reads(t, f, []step{{9, whole(1)}, {10, whole(1)}, {at + 1, whole(1)}, {at + 2, whole(1)}}, api.Reading{}, api.Reading{State: fresh, Value: 600000}, api.Reading{}, api.Reading{State: fresh, Value: 600000})
	}
}

// Of beats the first number above 0 of a tick alone is one; numbers of 0 and below 0 are heard, but are none.
func TestP142Beats(t *testing.T) {
	rate := func(v int) api.Reading { return api.Reading{State: fresh, Value: v} }
	f := api.Filter{Kind: 4, N: 2, Stale: 20}
	reads(t, f, []step{{0, whole(1, 2, 3)}, {10, whole(0, -1, 5, 7, 0)}, {14, whole(0)}, {15, whole(-3, 0)}, {20, whole(0, 9)}}, api.Reading{}, rate(60000), rate(60000), rate(60000), rate(60000))
	reads(t, f, []step{{0, whole(0)}, {5, whole(-1)}, {9, whole(1)}, {12, whole(-1)}, {13, nil}, {15, whole(8388605)}, {16, nil}}, api.Reading{}, api.Reading{}, api.Reading{}, api.Reading{}, api.Reading{}, rate(100000), api.Reading{State: held, Value: 100000})
	// Less than half a thousandth is none, half of one is.
	reads(t, f, []step{{0, whole(1)}, {4, []api.Real{{Mantissa: 4, Exponent: -4}}}, {5, []api.Real{{Mantissa: 5, Exponent: -4}}}, {6, []api.Real{{Mantissa: 1, Exponent: -128}}}}, api.Reading{}, api.Reading{}, rate(120000), rate(120000))
	// Of 3 beats the first one no longer counts by 2, but does by 3.
	for n, want := range map[int]int{2: 300000, 3: 100000, 8: 100000} {
		f := api.Filter{Kind: 4, N: n, Stale: 20}
		reads(t, f, []step{{0, whole(1)}, {10, whole(1)}, {12, whole(1)}}, api.Reading{}, rate(60000), rate(want))
	}
}

// A rate of beats that are so far apart that it rounds to 0 is a rate, and a value.
func TestP142SlowestBeats(t *testing.T) {
	for _, n := range []int{2, 8} {
		f := api.Filter{Kind: 4, N: n, Stale: 10000}
		steps := []step{{0, whole(1)}}
		for tick := 10000; tick < 1200000; tick += 10000 {
			steps = append(steps, step{tick, whole(0)})
		}
		for _, c := range []struct{ tick, want int }{{1200000, 1}, {1200001, 0}} {
			task := made(t, f)
			for _, s := range append(steps, step{1199999, whole(-1)}) {
				if r := read(t, task, s); r != (api.Reading{}) {
					t.Fatalf("%v: at %d %v", f, s.tick, r)
				}
			}
			if r := read(t, task, step{c.tick, whole(1)}); r != (api.Reading{State: fresh, Value: c.want}) {
				t.Fatalf("%v: at %d %v", f, c.tick, r)
			}
			if r := read(t, task, step{c.tick + 1, nil}); r != (api.Reading{State: held, Value: c.want}) {
				t.Fatalf("%v: at %d %v", f, c.tick+1, r)
			}
		}
	}
}

// Every list of three steps, few ticks apart, out of what may be heard at a tick.
func TestP142AllLists(t *testing.T) {
	heard := [][]api.Real{nil, whole(1), whole(4, 2), whole(0), {isOff()}, append(whole(7), isOff()), append([]api.Real{isOff()}, whole(3)...), others()[1:2]}
	for limit := 1; limit <= 2; limit++ {
		for _, f := range []api.Filter{{Kind: 0, N: 0}, {Kind: 1, N: 3}, {Kind: 2, N: 2}, {Kind: 3, N: 400}, {Kind: 4, N: 2}, {Kind: 4, N: 3}} {
			f.Stale = limit
			var from func(steps []step, tick int)
			from = func(steps []step, tick int) {
				if len(steps) == 3 {
					agrees(t, f, steps)
					return
				}
				for next := tick; next <= tick+limit+1; next++ {
					for _, l := range heard {
						from(append(steps[:len(steps):len(steps)], step{next, l}), next+1)
					}
				}
			}
			from(nil, 0)
		}
	}
}

func TestP142ManyLists(t *testing.T) {
	everywhere(1420, func(_ *dice, f api.Filter, steps []step) { agrees(t, f, steps) })
}

// Many steps of one filter, by every N that there may be.
func TestP142LongLists(t *testing.T) {
	d := dice{1421}
	for kind := range 5 {
		for n := range 1001 {
			f := api.Filter{Kind: kind, N: n, Stale: 1 + d.below(8)}
			if mayBeFilter(f) {
				agrees(t, f, d.steps(d.below(10), 100, f.Stale+1))
			}
		}
	}
}

// Numbers on end, a tick after the other, so that all places of what is inside are gone round many times.
func TestP142NumbersOnEnd(t *testing.T) {
	d := dice{1422}
	for _, f := range filters(1) {
		var steps []step
		for tick := range 200 {
			s := step{tick, nil}
			for range 1 + d.below(3) {
				s.l = append(s.l, d.number())
			}
			steps = append(steps, s)
		}
		agrees(t, f, steps)
	}
}

// Some by one filter and by several, by turns: each goes by its own.
func TestFiltersApart(t *testing.T) {
	d := dice{14}
	by := append(filters(3), filters(3)...)
	tasks := make([]*Task, len(by))
	own := make([][]step, len(by))
	want := make([][]api.Reading, len(by))
	had := make([]int, len(by))
	for i, f := range by {
		tasks[i], own[i] = made(t, f), d.steps(d.below(5), 60, 5)
		want[i] = words(f, own[i])
	}
	for range 100 * len(by) {
		i := d.below(len(by))
		k := had[i]
		if k == len(own[i]) {
			continue
		}
		if got := read(t, tasks[i], own[i][k]); got != want[i][k] {
			t.Fatalf("%v: behind %v: %v, want %v", by[i], own[i][:k+1], got, want[i][k])
		}
		had[i]++
		checks(t, api.Filter{Kind: by[i].Kind, N: -1, Stale: 1}, false)
		refused(t, new(Task), api.ErrNil, k, own[i][k].l)
	}
}

// What is handed in is left as it was, its spare room too, and is not kept: what becomes of it later makes no difference.
func TestListsAreLeftAlone(t *testing.T) {
	everywhere(1423, func(d *dice, f api.Filter, steps []step) {
		if f.Stale > 3 {
			return
		}
		task := made(t, f)
		for i, want := range words(f, steps) {
			room := append(slices.Clone(steps[i].l), whole(99, 98)...)
			l := room[:len(room)-2]
			if got := read(t, task, step{steps[i].tick, l}); got != want {
				t.Fatalf("%v: behind %v: %v, want %v", f, steps[:i+1], got, want)
			}
			refused(t, task, api.ErrRange, steps[i].tick, l)
			if !slices.Equal(room, append(slices.Clone(steps[i].l), whole(99, 98)...)) {
				t.Fatalf("%v: %v has become %v", f, steps[i].l, room)
			}
			for k := range room {
				room[k] = d.real()
			}
		}
	})
}
