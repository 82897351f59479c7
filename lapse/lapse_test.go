package lapse

import (
	"math"
	"testing"
)

const most = 1<<31 - 1

// How it may stand.
const (
	none  = 0
	fresh = 1
	held  = 2
	stale = 3
	off   = 4
)

// A thing that is heard: a number, or that the sensor is off.
type thing struct {
	tick int
	off  bool
}

// made is one by a limit.
func made(t *testing.T, limit int) *Lapse {
	t.Helper()
	l, e := New(limit)
	if l == nil || e != 0 {
		t.Fatalf("New(%d) = %v, %d", limit, l, e)
	}
	return l
}

// hear has each of some things heard.
func hear(t *testing.T, l *Lapse, things ...thing) {
	t.Helper()
	for _, x := range things {
		if e := l.Heard(x.tick, x.off); e != 0 {
			t.Fatalf("Heard(%d, %v) = %d", x.tick, x.off, e)
		}
	}
}

// after is a new one by a limit, behind some things.
func after(t *testing.T, limit int, things ...thing) *Lapse {
	t.Helper()
	l := made(t, limit)
	hear(t, l, things...)
	return l
}

// state is how it stands at a tick.
func state(t *testing.T, l *Lapse, tick int) int {
	t.Helper()
	s, e := l.State(tick)
	if e != 0 {
		t.Fatalf("State(%d) = %d, %d", tick, s, e)
	}
	return s
}

// stands holds how it stands at each of some ticks.
func stands(t *testing.T, l *Lapse, want int, ticks ...int) {
	t.Helper()
	for _, tick := range ticks {
		if s, e := l.State(tick); s != want || e != 0 {
			t.Fatalf("State(%d) = %d, %d, want %d", tick, s, e, want)
		}
	}
}

// answers holds that both calls, at each of some ticks, are refused with an error.
func answers(t *testing.T, l *Lapse, want int, ticks ...int) {
	t.Helper()
	for _, tick := range ticks {
		if s, e := l.State(tick); s != 0 || int(e) != want {
			t.Fatalf("State(%d) = %d, %d, want 0, %d", tick, s, e, want)
		}
		for _, isOff := range []bool{false, true} {
			if e := l.Heard(tick, isOff); int(e) != want {
				t.Fatalf("Heard(%d, %v) = %d, want %d", tick, isOff, e, want)
			}
		}
	}
}

// refused holds that they are refused with ErrRange.
func refused(t *testing.T, l *Lapse, ticks ...int) {
	t.Helper()
	answers(t, l, 9, ticks...)
}

// words is how it stands as the section 'Words' tells it, said again.
func words(limit int, things []thing, tick int) int {
	if len(things) == 0 {
		if tick <= limit {
			return none
		}
		return stale
	}
	last := things[len(things)-1]
	if tick-last.tick > limit {
		return stale
	}
	if last.off {
		return off
	}
	if tick == last.tick {
		return fresh
	}
	return held
}

// near are the ticks at which it is told how it stands behind some things: those around which it changes, and some far away.
func near(limit int, things []thing) []int {
	last := 0
	if len(things) > 0 {
		last = things[len(things)-1].tick
	}
	var out []int
	for _, ago := range []int{0, 1, 2, limit / 2, limit - 1, limit, limit + 1, limit + 2, 2*limit + 1, 1 << 16, 1 << 30} {
		if tick := last + ago; ago >= 0 && tick <= most {
			out = append(out, tick)
		}
	}
	return append(out, most)
}

// agrees holds how one stands behind some things against the words.
func agrees(t *testing.T, l *Lapse, limit int, things []thing) {
	t.Helper()
	for _, tick := range near(limit, things) {
		if got, want := state(t, l, tick), words(limit, things, tick); got != want {
			t.Fatalf("by %d: behind %v: at %d %d, want %d", limit, things, tick, got, want)
		}
	}
}

// agreesAlways does so behind each thing of a list.
func agreesAlways(t *testing.T, limit int, things []thing) {
	t.Helper()
	l := made(t, limit)
	agrees(t, l, limit, nil)
	for i, x := range things {
		hear(t, l, x)
		agrees(t, l, limit, things[:i+1])
	}
}

// dice are numbers without an order to be seen, the same ones for the same seed.
type dice struct{ x uint64 }

func (d *dice) below(n int) int {
	d.x = d.x*6364136223846793005 + 1442695040888963407
	return int(d.x >> 33 % uint64(n))
}

// things are up to so many from a tick on, each at most so far behind the one ahead of it; about a third are at the tick of that one.
func (d *dice) things(first, many, far int) []thing {
	var out []thing
	for tick := first; len(out) < many && tick <= most; {
		out = append(out, thing{tick, d.below(3) == 0})
		if d.below(3) > 0 {
			tick += d.below(far + 1)
		}
	}
	return out
}

// limits are many of those that there may be.
func limits() []int {
	return []int{1, 2, 3, 4, 5, 7, 10, 16, 50, 99, 100, 255, 256, 600, 1000, 4096, 5000, 9998, 9999, 10000}
}

// firsts are ticks at which the first thing may be heard, by a limit.
func firsts(limit int) []int {
	return []int{0, 1, limit - 1, limit, limit + 1, limit + 2, 36600, 1 << 20, 1 << 30, most - limit - 1, most - limit, most - 1, most}
}

// lists are things of all kinds, by a limit.
func lists(d *dice, limit int) [][]thing {
	var out [][]thing
	for _, far := range []int{1, 3, limit, limit + 1, 2*limit + 1, 50000, 1 << 26} {
		for _, first := range firsts(limit) {
			out = append(out, d.things(first, 12, far))
		}
	}
	return out
}

// beyond are ticks that there are not.
func beyond() []int {
	return []int{-1, -2, -3, -10000, -10001, -most, -most - 1, math.MinInt, math.MinInt + 1, most + 1, most + 2, 1 << 32, 1<<32 + 7, 1 << 40, math.MaxInt, math.MaxInt - 1}
}

// A new one has heard nothing, and is stale behind its limit and not sooner.
func TestP131New(t *testing.T) {
	for limit := 1; limit <= 10000; limit++ {
		l := made(t, limit)
		stands(t, l, none, 0, 1, limit/2, limit-1, limit)
		stands(t, l, stale, limit+1, limit+2, most-1, most)
	}
}

// The limit is that of what is heard, too.
func TestP131Limit(t *testing.T) {
	for limit := 1; limit <= 10000; limit++ {
		l := after(t, limit, thing{20000, false})
		stands(t, l, fresh, 20000)
		stands(t, l, held, 20001, 20000+limit)
		stands(t, l, stale, 20001+limit)
	}
}

func TestP131Wrong(t *testing.T) {
	for _, limit := range []int{0, 10001, -1, math.MinInt, math.MaxInt, -2, -10000, 10002, 20000, 1<<16 + 3, most, 1<<32 + 3, math.MinInt + 3, math.MaxInt - 1} {
		for range 2 {
			if l, e := New(limit); l != nil || e != 2 {
				t.Errorf("New(%d) = %v, %d", limit, l, e)
			}
		}
	}
}

func TestP132P133None(t *testing.T) {
	var nobody *Lapse
	for _, l := range []*Lapse{nobody, {}, new(Lapse)} {
		for range 3 {
			answers(t, l, 1, 0, 1, 5, most)
			answers(t, l, 1, beyond()...)
		}
	}
}

func TestP133Examples(t *testing.T) {
	l := made(t, 3)
	stands(t, l, none, 0, 3)
	stands(t, l, stale, 4)
	hear(t, l, thing{5, false})
	stands(t, l, fresh, 5)
	stands(t, l, held, 6, 8)
	stands(t, l, stale, 9)
	hear(t, l, thing{9, true})
	stands(t, l, off, 9, 12)
	stands(t, l, stale, 13)
	refused(t, l, 8)
	hear(t, l, thing{9, false})
	stands(t, l, fresh, 9)
	refused(t, l, 8)
}

// Ticks that there are not, ahead of the first thing and behind some.
func TestP132P133OutOfRange(t *testing.T) {
	for _, limit := range limits() {
		l := made(t, limit)
		refused(t, l, beyond()...)
		for _, tick := range []int{0, 1, limit, 20000, most - 1, most} {
			for _, isOff := range []bool{false, true} {
				hear(t, l, thing{tick, isOff})
				refused(t, l, beyond()...)
			}
		}
	}
}

// The first and the last tick, heard and asked.
func TestP132P133Bounds(t *testing.T) {
	for _, limit := range limits() {
		for _, x := range []struct {
			off       bool
			now, soon int
		}{{false, fresh, held}, {true, off, off}} {
			l := made(t, limit)
			stands(t, l, none, 0)
			stands(t, l, stale, most)
			refused(t, l, -1, most+1)
			hear(t, l, thing{0, x.off})
			stands(t, l, x.now, 0)
			stands(t, l, x.soon, 1, limit)
			stands(t, l, stale, limit+1, most)
			refused(t, l, -1, most+1)
			hear(t, l, thing{most, x.off})
			stands(t, l, x.now, most)
			refused(t, l, -1, 0, 1, limit, limit+1, most-1, most+1)
		}
	}
}

// At a tick below that at which something was heard last nothing may be heard or asked, at that tick both.
func TestP132P133BelowTheLast(t *testing.T) {
	d := dice{132}
	for _, limit := range limits() {
		for _, things := range lists(&d, limit) {
			l := made(t, limit)
			for i, x := range things {
				hear(t, l, x)
				refused(t, l, x.tick-1)
				if x.tick > 0 {
					refused(t, l, 0, d.below(x.tick))
				}
				stands(t, l, words(limit, things[:i+1], x.tick), x.tick)
				hear(t, l, x)
				stands(t, l, words(limit, things[:i+1], x.tick), x.tick)
			}
		}
	}
}

// As long as nothing was heard it may be asked at any tick, also behind a later one.
func TestP133NothingHeard(t *testing.T) {
	for _, limit := range limits() {
		l := made(t, limit)
		for range 3 {
			stands(t, l, stale, most, limit+1)
			stands(t, l, none, limit, 1, 0)
		}
		hear(t, l, thing{0, false})
		stands(t, l, fresh, 0)
	}
}

// The first thing, at 0, around the limit and far behind it.
func TestP132FirstThing(t *testing.T) {
	for _, limit := range limits() {
		for _, first := range firsts(limit) {
			for _, isOff := range []bool{false, true} {
				l := made(t, limit)
				agrees(t, l, limit, nil)
				hear(t, l, thing{first, isOff})
				agrees(t, l, limit, []thing{{first, isOff}})
			}
		}
	}
}

// At that tick, one behind it, at the limit behind it, at one more.
func TestP133Edges(t *testing.T) {
	for _, limit := range limits() {
		for _, h := range []int{0, 1, limit, limit + 1, 123456, most - limit - 1} {
			number, gone := after(t, limit, thing{h, false}), after(t, limit, thing{h, true})
			stands(t, number, fresh, h)
			stands(t, number, held, h+1, h+limit)
			stands(t, number, stale, h+limit+1)
			stands(t, gone, off, h, h+1, h+limit)
			stands(t, gone, stale, h+limit+1)
		}
	}
}

// Of several at one tick the last one counts, then and at later ticks.
func TestP132SeveralAtOneTick(t *testing.T) {
	for _, limit := range limits() {
		for _, tick := range []int{0, 1, limit, limit + 1, 50000, most - limit - 1} {
			for many := 1; many <= 5; many++ {
				for bits := range 1 << many {
					var things []thing
					for i := range many {
						things = append(things, thing{tick, bits>>i&1 == 1})
					}
					l := after(t, limit, things...)
					if bits>>(many-1) == 1 {
						stands(t, l, off, tick, tick+1, tick+limit)
					} else {
						stands(t, l, fresh, tick)
						stands(t, l, held, tick+1, tick+limit)
					}
					stands(t, l, stale, tick+limit+1)
				}
			}
		}
	}
}

// What was heard ahead of the last thing leaves nothing behind: only the last one counts.
func TestP133OnlyTheLast(t *testing.T) {
	d := dice{1330}
	for _, limit := range limits() {
		for _, things := range lists(&d, limit) {
			l, last := after(t, limit, things...), things[len(things)-1]
			alone := after(t, limit, last)
			for _, tick := range near(limit, things) {
				if got, want := state(t, l, tick), state(t, alone, tick); got != want {
					t.Fatalf("by %d: behind %v: at %d %d, behind the last one alone %d", limit, things, tick, got, want)
				}
			}
		}
	}
}

// Every list of up to so many things, few ticks apart, asked at every tick up to well behind the limit.
func TestP133AllLists(t *testing.T) {
	for limit := 1; limit <= 3; limit++ {
		var from func(things []thing, tick int)
		from = func(things []thing, tick int) {
			l := after(t, limit, things...)
			for at := tick; at <= tick+limit+3; at++ {
				if got, want := state(t, l, at), words(limit, things, at); got != want {
					t.Fatalf("by %d: behind %v: at %d %d, want %d", limit, things, at, got, want)
				}
			}
			if len(things) == 4 {
				return
			}
			for next := tick; next <= tick+limit+2; next++ {
				for _, isOff := range []bool{false, true} {
					from(append(things[:len(things):len(things)], thing{next, isOff}), next)
				}
			}
		}
		from(nil, 0)
	}
}

func TestP133ManyLists(t *testing.T) {
	d := dice{133}
	for range 5 {
		for _, limit := range limits() {
			for _, things := range lists(&d, limit) {
				agreesAlways(t, limit, things)
			}
		}
	}
}

// Every limit that there may be, by some things.
func TestP133ManyLimits(t *testing.T) {
	d := dice{1331}
	for limit := 1; limit <= 10000; limit++ {
		agreesAlways(t, limit, d.things(d.below(2*limit), 5, 2*limit))
	}
}

// Some by one limit and by several, by turns: each goes by its own.
func TestLapsesApart(t *testing.T) {
	d := dice{13}
	by := []int{1, 3, 3, 10000}
	all := make([]*Lapse, len(by))
	own := make([][]thing, len(by))
	had := make([]int, len(by))
	for i, limit := range by {
		all[i], own[i] = made(t, limit), d.things(d.below(10), 300, limit+2)
	}
	for range 1500 {
		i := d.below(len(by))
		if had[i] == len(own[i]) {
			continue
		}
		hear(t, all[i], own[i][had[i]])
		had[i]++
		for k, limit := range by {
			agrees(t, all[k], limit, own[k][:had[k]])
		}
		if l, e := New(10001); l != nil || e != 2 {
			t.Fatalf("New(10001) = %v, %d", l, e)
		}
		answers(t, new(Lapse), 1, had[i])
	}
}
