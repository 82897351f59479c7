package bus

import (
	"math"
	"testing"

	"handbell/api"
)

func TestP201Examples(t *testing.T) {
	for _, x := range [][2]int{{0, 2}, {9, 2}, {2, 0}, {2, 101}} {
		if b, e := New(x[0], x[1]); b != nil || e != api.ErrArg {
			t.Errorf("New(%d, %d) = %v, %d", x[0], x[1], b, e)
		}
	}
}

func TestP202Examples(t *testing.T) {
	b := made(t, 2, 2)
	joins(t, b, 1, 0, api.OK)
	joins(t, b, 2, 0, api.ErrTopic)
	tells(t, b, 1, 7, 1, api.OK)
	tells(t, b, 0, 8, 0, api.OK)
	hears(t, b, 0, []int{7}, 0, api.OK)
	hears(t, b, 0, nil, 0, api.OK)
	hears(t, b, 1, nil, 0, api.ErrArg)
}

func TestP203Examples(t *testing.T) {
	b := made(t, 2, 2)
	isLocked(t, b, 0, 5, true, api.OK)
	frees(t, b, 0, 5, api.OK)
	isLocked(t, b, 0, 5, false, api.OK)
	isLocked(t, b, 0, 6, false, api.OK)
	isLocked(t, b, 0, 7, true, api.OK)
	isLocked(t, b, 0, 6, false, api.ErrRange)
	frees(t, b, 1, 7, api.OK)
	sets(t, b, 1, api.OK)
	isLocked(t, b, 1, 7, true, api.OK)
	frees(t, b, 4, 7, api.ErrArg)
	frees(t, b, 1, 6, api.ErrRange)
}

func TestTheNumbersOfTheDocument(t *testing.T) {
	if api.MaxQueue != room || api.MaxLocks != keys {
		t.Errorf("MaxQueue %d, MaxLocks %d", api.MaxQueue, api.MaxLocks)
	}
	if api.ErrNil != noBus || api.ErrArg != badArg || api.ErrMany != tooMany || api.ErrRange != tooEarly || api.ErrTopic != noTopic {
		t.Error("the errors' numbers")
	}
}

// A new bus has just so many topics, no listeners, locks that are set, and the clock 0.
func TestP201New(t *testing.T) {
	for topics := 1; topics <= 8; topics++ {
		for free := 1; free <= 100; free++ {
			b := made(t, topics, free)
			hears(t, b, 0, nil, 0, badArg)
			tells(t, b, topics-1, 5, 0, 0)
			tells(t, b, topics, 5, 0, noTopic)
			for k := range keys {
				isLocked(t, b, k, 0, true, 0)
			}
			frees(t, b, 0, 0, 0)
			isLocked(t, b, 0, free-1, false, 0)
			isLocked(t, b, 0, free, true, 0)
		}
	}
}

func TestP201NewOfWhatMayNotBe(t *testing.T) {
	for _, topics := range edges() {
		for _, free := range edges() {
			mayBe := topics >= 1 && topics <= 8 && free >= 1 && free <= 100
			b, e := New(topics, free)
			if mayBe && (b == nil || e != 0) || !mayBe && (b != nil || e != badArg) {
				t.Errorf("New(%d, %d) = %v, %d", topics, free, b, e)
			}
		}
	}
}

// Of no bus all calls answer ErrNil, whatever else is wrong.
func TestP201NoBus(t *testing.T) {
	for name, b := range map[string]*Bus{"nil": nil, "zero": {}} {
		t.Run(name, func(t *testing.T) {
			for _, x := range edges() {
				for _, y := range edges() {
					tells(t, b, x, y, 0, noBus)
					frees(t, b, x, y, noBus)
					isLocked(t, b, x, y, false, noBus)
				}
				joins(t, b, x, 0, noBus)
				hears(t, b, x, nil, 0, noBus)
				sets(t, b, x, noBus)
			}
		})
	}
}

func TestP201EachBusHasItsOwn(t *testing.T) {
	a, b := made(t, 1, 3), made(t, 2, 1)
	joins(t, a, 0, 0, 0)
	hears(t, b, 0, nil, 0, badArg)
	joins(t, b, 0, 0, 0)
	tells(t, a, 0, 4, 1, 0)
	hears(t, b, 0, nil, 0, 0)
	frees(t, a, 2, 9, 0)
	frees(t, b, 2, 8, 0)
	isLocked(t, b, 2, 8, false, 0)
	isLocked(t, b, 2, 9, true, 0)
	isLocked(t, a, 2, 11, false, 0)
	hears(t, a, 0, []int{4}, 0, 0)
}

// Listeners are counted over all topics; a topic that is none is told ahead of there being eight.
func TestP202Join(t *testing.T) {
	for topics := 1; topics <= 8; topics++ {
		b := made(t, topics, 1)
		for n := range ears {
			for _, to := range []int{-1, topics, math.MinInt, math.MaxInt, 1 << 32} {
				joins(t, b, to, 0, noTopic)
			}
			joins(t, b, n*3%topics, n, 0)
		}
		for to := range topics {
			joins(t, b, to, 0, tooMany)
		}
		joins(t, b, topics, 0, noTopic)
		joins(t, b, -1, 0, noTopic)
		hears(t, b, ears-1, nil, 0, 0)
		hears(t, b, ears, nil, 0, badArg)
	}
}

// Which of the eight listen to which of the topics, and how many they are.
func TestP202TellHowMany(t *testing.T) {
	for topics := 1; topics <= 8; topics++ {
		d := &dice{uint64(topics)}
		for range 50 {
			p := both(t, topics, 1)
			for range ears {
				p.join(d.below(topics))
				for to := -1; to <= topics; to++ {
					p.tell(to, d.below(100))
				}
			}
			for l := range ears {
				p.hear(l)
			}
		}
	}
}

func TestP202WrongNumbers(t *testing.T) {
	p := both(t, 3, 1)
	for range 3 {
		p.join(1)
		for _, x := range edges() {
			p.tell(x, 1)
			p.hear(x)
		}
	}
	for _, x := range edges() {
		if x < 0 || x >= 3 {
			joins(t, p.b, x, 0, noTopic)
		}
	}
}

// What is refused puts nothing in, and takes nothing out.
func TestP202RefusedChangesNothing(t *testing.T) {
	b := made(t, 2, 1)
	for range ears {
		joins(t, b, 1, len(b.listeners), 0)
	}
	tells(t, b, 1, 7, ears, 0)
	joins(t, b, 1, 0, tooMany)
	joins(t, b, 2, 0, noTopic)
	tells(t, b, 2, 8, 0, noTopic)
	tells(t, b, -1, 8, 0, noTopic)
	hears(t, b, ears, nil, 0, badArg)
	hears(t, b, -1, nil, 0, badArg)
	tells(t, b, 1, 9, ears, 0)
	for l := range ears {
		hears(t, b, l, []int{7, 9}, 0, 0)
	}
}

func TestP202AnyNumber(t *testing.T) {
	b := made(t, 1, 1)
	joins(t, b, 0, 0, 0)
	for _, v := range edges() {
		tells(t, b, 0, v, 1, 0)
		hears(t, b, 0, []int{v}, 0, 0)
	}
	for _, v := range edges() {
		tells(t, b, 0, v, 1, 0)
	}
	lost := len(edges()) - room
	hears(t, b, 0, edges()[lost:], lost, 0)
}

// Sixteen are kept, at one more the first one is lost; each time again.
func TestP202Lost(t *testing.T) {
	for _, n := range []int{0, 1, 2, 15, 16, 17, 18, 31, 32, 33, 100, 1000} {
		b := made(t, 1, 1)
		joins(t, b, 0, 0, 0)
		for range 3 {
			for v := 1; v <= n; v++ {
				tells(t, b, 0, v, 1, 0)
			}
			lost := max(n-room, 0)
			hears(t, b, 0, upTo(lost+1, n), lost, 0)
			hears(t, b, 0, nil, 0, 0)
		}
	}
}

// A lock, ticks and what is wrong with them: the lock is told ahead of the tick.
func TestP203WrongNumbers(t *testing.T) {
	for _, clock := range []int{0, 1, 7, 1 << 40, math.MaxInt} {
		for _, lock := range edges() {
			for _, tick := range edges() {
				p := both(t, 1, 3)
				p.free(0, clock)
				p.set(lock)
				p.free(lock, tick)
				p.locked(lock, tick)
				p.locked(0, p.m.clock)
			}
		}
	}
}

// What is refused moves neither the clock nor a lock.
func TestP203RefusedChangesNothing(t *testing.T) {
	b := made(t, 1, 4)
	frees(t, b, 2, 10, 0)
	frees(t, b, 4, 99, badArg)
	frees(t, b, -1, 99, badArg)
	isLocked(t, b, 4, 99, false, badArg)
	isLocked(t, b, -1, 99, false, badArg)
	sets(t, b, 4, badArg)
	sets(t, b, -1, badArg)
	frees(t, b, 2, 9, tooEarly)
	frees(t, b, 1, 9, tooEarly)
	isLocked(t, b, 2, 9, false, tooEarly)
	isLocked(t, b, 1, 10, true, 0)
	isLocked(t, b, 2, 13, false, 0)
	frees(t, b, 2, 12, tooEarly)
	isLocked(t, b, 2, 14, true, 0)
}

// Below the clock 0 there are no ticks.
func TestP203BelowTheFirstTick(t *testing.T) {
	b := made(t, 1, 100)
	for _, tick := range []int{-1, -100, math.MinInt32, math.MinInt} {
		for k := range keys {
			frees(t, b, k, tick, tooEarly)
			isLocked(t, b, k, tick, false, tooEarly)
		}
	}
	for k := range keys {
		isLocked(t, b, k, 0, true, 0)
	}
}

// The clock is moved by Free and by Locked, of any lock, and not by Set.
func TestP203Clock(t *testing.T) {
	b := made(t, 1, 2)
	for k := range keys {
		frees(t, b, k, 10*k+5, 0)
		isLocked(t, b, (k+1)%keys, 10*k+4, false, tooEarly)
		isLocked(t, b, (k+1)%keys, 10*k+8, true, 0)
		frees(t, b, (k+2)%keys, 10*k+7, tooEarly)
		sets(t, b, k, 0)
		frees(t, b, (k+2)%keys, 10*k+8, 0)
		frees(t, b, (k+2)%keys, 10*k+8, 0)
	}
}

// What is set and freed at one tick is as it was said last.
func TestP203SetAndFreed(t *testing.T) {
	b := made(t, 1, 3)
	for k := range keys {
		sets(t, b, k, 0)
		isLocked(t, b, k, 10*k, true, 0)
		frees(t, b, k, 10*k, 0)
		isLocked(t, b, k, 10*k, false, 0)
		sets(t, b, k, 0)
		sets(t, b, k, 0)
		isLocked(t, b, k, 10*k, true, 0)
		frees(t, b, k, 10*k, 0)
		isLocked(t, b, k, 10*k+2, false, 0)
		sets(t, b, k, 0)
		isLocked(t, b, k, 10*k+2, true, 0)
		frees(t, b, k, 10*k+2, 0)
		isLocked(t, b, k, 10*k+4, false, 0)
		isLocked(t, b, k, 10*k+5, true, 0)
	}
}

// The last ticks that there are: nothing wraps round.
func TestP203LastTicks(t *testing.T) {
	b := made(t, 1, 100)
	frees(t, b, 0, 0, 0)
	frees(t, b, 1, math.MaxInt-100, 0)
	isLocked(t, b, 0, math.MaxInt-100, true, 0)
	frees(t, b, 2, math.MaxInt-99, 0)
	isLocked(t, b, 0, math.MaxInt, true, 0)
	isLocked(t, b, 1, math.MaxInt, true, 0)
	isLocked(t, b, 2, math.MaxInt, false, 0)
	isLocked(t, b, 3, math.MaxInt, true, 0)
	frees(t, b, 3, math.MaxInt, 0)
	isLocked(t, b, 3, math.MaxInt, false, 0)
	frees(t, b, 3, math.MaxInt-1, tooEarly)
}

// What is heard may be written into, grown and kept: neither the bus nor another answer feels it.
func TestP204NewMemory(t *testing.T) {
	b := made(t, 1, 1)
	for range 2 {
		joins(t, b, 0, len(b.listeners), 0)
	}
	var kept [][]int
	for round := range 5 {
		for v := range room {
			tells(t, b, 0, 100*round+v, 2, 0)
		}
		l, _, _ := b.Hear(0)
		kept = append(kept, l)
		other, _, _ := b.Hear(1)
		clear(other[:cap(other)])
		_ = append(other[:3], 9, 9)
	}
	for round, l := range kept {
		for v, x := range l {
			if len(l) != room || x != 100*round+v {
				t.Fatalf("what was heard in round %d is now %v", round, l)
			}
		}
	}
}
