package filter

import (
	"math/big"
	"slices"
	"testing"

	"handbell/api"
)

const most = 1<<31 - 1

// How a reading may stand.
const (
	none  = 0
	fresh = 1
	held  = 2
	stale = 3
	off   = 4
)

// A step: a tick, and what was heard at it.
type step struct {
	tick int
	l    []api.Real
}

// The section 'Words', said again: out of all steps so far, without the layers below.

// mayBeFilter tells which filters may be.
func mayBeFilter(f api.Filter) bool {
	within := func(v, least, greatest int) bool { return least <= v && v <= greatest }
	if !within(f.Stale, 1, 10000) {
		return false
	}
	return map[int]bool{
		0: f.N == 0,
		1: slices.Contains([]int{1, 3, 5, 7, 9, 11, 13, 15}, f.N),
		2: within(f.N, 1, 15),
		3: within(f.N, 1, 1000),
		4: within(f.N, 2, 8),
	}[f.Kind]
}

// nearest is num over den, rounded; of two that are as near the one that is farther from 0.
func nearest(num, den *big.Int) *big.Int {
	q, r := new(big.Int).QuoRem(num, den, new(big.Int))
	if r.Abs(r).Lsh(r, 1).Cmp(den) >= 0 {
		q.Add(q, big.NewInt(int64(num.Sign())))
	}
	return q
}

func nearestInt(num, den int) int {
	return int(nearest(big.NewInt(int64(num)), big.NewInt(int64(den))).Int64())
}

// thousandths is what a number is, in bounds.
func thousandths(r api.Real) int {
	ten := big.NewInt(10)
	num, den := big.NewInt(int64(r.Mantissa)), big.NewInt(1)
	if e := int64(r.Exponent) + 3; e >= 0 {
		num.Mul(num, ten.Exp(ten, big.NewInt(e), nil))
	} else {
		den.Exp(ten, big.NewInt(-e), nil)
	}
	v := nearest(num, den)
	switch {
	case v.Cmp(big.NewInt(most)) > 0:
		return most
	case v.Cmp(big.NewInt(-most)) < 0:
		return -most
	}
	return int(v.Int64())
}

// A number that was heard at a tick.
type number struct{ tick, v int }

func last[T any](l []T, n int) []T {
	return l[max(len(l)-n, 0):]
}

// valueOf is the value behind all numbers since what is inside began anew.
func valueOf(f api.Filter, numbers []number) (int, bool) {
	if len(numbers) == 0 {
		return 0, false
	}
	var all []int
	for _, x := range numbers {
		all = append(all, x.v)
	}
	switch f.Kind {
	case api.FilterMedian:
		sorted := slices.Sorted(slices.Values(last(all, f.N)))
		return sorted[(len(sorted)-1)/2], true
	case api.FilterAverage:
		sum := 0
		for _, v := range last(all, f.N) {
			sum += v
		}
		return nearestInt(sum, min(len(all), f.N)), true
	case api.FilterSlow:
		y := all[0]
		for _, v := range all[1:] {
			y += nearestInt(f.N*(v-y), 1000)
		}
		return y, true
	case api.FilterBeats:
		return rateOf(f.N, numbers)
	}
	return all[len(all)-1], true
}

// rateOf is the rate of the last n ticks at which a number above 0 was heard.
func rateOf(n int, numbers []number) (int, bool) {
	var ticks []int
	for _, x := range numbers {
		if x.v > 0 && !slices.Contains(ticks, x.tick) {
			ticks = append(ticks, x.tick)
		}
	}
	ticks = last(ticks, n)
	m := len(ticks)
	if m < 2 {
		return 0, false
	}
	return nearestInt(600000*(m-1), ticks[m-1]-ticks[0]), true
}

// What the lapse has heard: a number, or that the sensor is off.
type thing struct {
	tick int
	off  bool
}

// stateOf is the lapse's state at a tick.
func stateOf(limit int, things []thing, tick int) int {
	if len(things) == 0 {
		if tick <= limit {
			return none
		}
		return stale
	}
	h := things[len(things)-1]
	switch {
	case tick-h.tick > limit:
		return stale
	case h.off:
		return off
	case tick == h.tick:
		return fresh
	}
	return held
}

// words are the readings behind each of some steps.
func words(f api.Filter, steps []step) []api.Reading {
	var things []thing
	var numbers []number
	var out []api.Reading
	for _, s := range steps {
		if stateOf(f.Stale, things, s.tick) == stale {
			numbers = nil
		}
		for _, r := range s.l {
			if r.Kind == api.RealNumber {
				things = append(things, thing{s.tick, false})
				numbers = append(numbers, number{s.tick, thousandths(r)})
			}
			if r.Kind == api.RealOff {
				things = append(things, thing{s.tick, true})
			}
		}
		state := stateOf(f.Stale, things, s.tick)
		if state == stale || state == off {
			numbers = nil
		}
		value, is := valueOf(f, numbers)
		if (state == fresh || state == held) && !is {
			state = none
		}
		out = append(out, api.Reading{State: state, Value: value})
	}
	return out
}

// The means of the tests.

// made is a filter at work.
func made(t *testing.T, f api.Filter) *Task {
	t.Helper()
	task, e := New(f)
	if task == nil || e != 0 {
		t.Fatalf("New(%v) = %v, %d", f, task, e)
	}
	return task
}

// read is the reading behind a step that is not refused.
func read(t *testing.T, task *Task, s step) api.Reading {
	t.Helper()
	r, e := task.Step(s.tick, s.l)
	if e != 0 {
		t.Fatalf("Step(%d, %v) = %v, %d", s.tick, s.l, r, e)
	}
	return r
}

// readings are those of a new filter behind each of some steps.
func readings(t *testing.T, f api.Filter, steps []step) []api.Reading {
	t.Helper()
	task := made(t, f)
	var out []api.Reading
	for _, s := range steps {
		out = append(out, read(t, task, s))
	}
	return out
}

// reads holds the readings of a new filter against those that are wanted.
func reads(t *testing.T, f api.Filter, steps []step, want ...api.Reading) {
	t.Helper()
	if got := readings(t, f, steps); !slices.Equal(got, want) {
		t.Fatalf("%v: %v: %v, want %v", f, steps, got, want)
	}
}

// agrees holds them against the words.
func agrees(t *testing.T, f api.Filter, steps []step) {
	t.Helper()
	reads(t, f, steps, words(f, steps)...)
}

// refused holds that a step is refused with an error, and has no reading.
func refused(t *testing.T, task *Task, want api.Errno, tick int, l []api.Real) {
	t.Helper()
	if r, e := task.Step(tick, l); r != (api.Reading{}) || e != want {
		t.Fatalf("Step(%d, %d reals) = %v, %d, want %d", tick, len(l), r, e, want)
	}
}

// whole are whole numbers, as reals.
func whole(l ...int) []api.Real {
	var out []api.Real
	for _, n := range l {
		out = append(out, api.Real{Mantissa: n})
	}
	return out
}

// isOff is that the sensor is off; others are what is no number and not off.
func isOff() api.Real {
	return api.Real{Kind: api.RealOff}
}

func others() []api.Real {
	return []api.Real{{Kind: api.RealNone}, {Kind: api.RealOver}, {Kind: api.RealUnder}, {Kind: api.RealReserved}}
}

// filters are many of those that there may be, by a Stale: each Kind with its least and its greatest N, and some between.
func filters(limit int) []api.Filter {
	out := []api.Filter{{Kind: 0, N: 0, Stale: limit}}
	for kind, l := range [][]int{1: {1, 3, 5, 13, 15}, 2: {1, 2, 3, 7, 14, 15}, 3: {1, 2, 100, 333, 500, 999, 1000}, 4: {2, 3, 5, 7, 8}} {
		for _, n := range l {
			out = append(out, api.Filter{Kind: kind, N: n, Stale: limit})
		}
	}
	return out
}

// limits are many of those that a Stale may be.
func limits() []int {
	return []int{1, 2, 3, 5, 10, 64, 1000, 9999, 10000}
}

// dice are numbers without an order to be seen, the same ones for the same seed.
type dice struct{ x uint64 }

func (d *dice) below(n int) int {
	d.x = d.x*6364136223846793005 + 1442695040888963407
	return int(d.x >> 33 % uint64(n))
}

// number is a real of some size: small ones, of which some come again, noughts, parts of thousandths, and ones at the bounds and beyond them.
func (d *dice) number() api.Real {
	switch d.below(6) {
	case 0:
		return api.Real{Mantissa: d.below(5) - 2}
	case 1:
		return api.Real{Mantissa: d.below(2001) - 1000, Exponent: -d.below(6)}
	case 2:
		return api.Real{Mantissa: d.below(16777211) - 8388605, Exponent: d.below(256) - 128}
	case 3:
		return api.Real{Mantissa: d.below(16777211) - 8388605, Exponent: d.below(3) - 3}
	}
	return api.Real{Mantissa: d.below(100) + 1}
}

// real is a number more often than not.
func (d *dice) real() api.Real {
	switch d.below(8) {
	case 0:
		return isOff()
	case 1:
		return others()[d.below(4)]
	}
	return d.number()
}

// reals are mostly none or few, now and then up to 64.
func (d *dice) reals() []api.Real {
	many := d.below(4)
	if d.below(12) == 0 {
		many = d.below(65)
	}
	var out []api.Real
	for range many {
		out = append(out, d.real())
	}
	return out
}

// steps are up to so many from a tick on, each at most so far behind the one ahead of it.
func (d *dice) steps(first, many, far int) []step {
	var out []step
	for tick := first; len(out) < many && tick <= most; tick += 1 + d.below(far) {
		out = append(out, step{tick, d.reals()})
	}
	return out
}

// lists are steps of all kinds, by a Stale.
func lists(d *dice, limit int) [][]step {
	var out [][]step
	for _, far := range []int{1, 3, limit, limit + 1, 2*limit + 1, 1 << 20} {
		for _, first := range []int{0, 1, limit, limit + 1, 36600, most - 3*far, most} {
			out = append(out, d.steps(max(first, 0), 20, far))
		}
	}
	return out
}

// everywhere does something with many lists of steps by many filters.
func everywhere(seed uint64, do func(d *dice, f api.Filter, steps []step)) {
	d := dice{seed}
	for _, limit := range limits() {
		for _, f := range filters(limit) {
			for _, steps := range lists(&d, limit) {
				do(&d, f, steps)
			}
		}
	}
}
