package bus

import (
	"slices"
	"testing"
)

// Any calls, in any order, against the chapter's words.
func TestP205Stories(t *testing.T) {
	var seen struct{ full, lost, free, set int }
	for seed := range 300 {
		d := &dice{uint64(seed)}
		p := both(t, 1+d.below(8), pick(d, 1, 2, 3, 10, 100))
		burst := 1
		for range 300 {
			switch d.below(12) {
			case 0:
				p.join(d.below(10) - 1)
			case 1, 2, 3:
				to := d.below(p.m.topics + 1)
				for range burst {
					p.tell(to, d.below(1000))
				}
			case 4, 5:
				heard, lost := p.hear(d.below(10) - 1)
				if heard == room {
					seen.full++
				}
				if lost > 0 {
					seen.lost++
				}
			case 6, 7:
				p.free(d.below(6)-1, p.m.clock+d.below(4)-1)
			case 8:
				p.set(d.below(6) - 1)
			case 9, 10:
				if p.locked(d.below(keys), p.m.clock+d.below(3)) {
					seen.set++
				} else {
					seen.free++
				}
			case 11:
				burst = pick(d, 1, 1, 2, 5, 20)
			}
		}
	}
	if seen.full < 500 || seen.lost < 500 || seen.free < 500 || seen.set < 500 {
		t.Errorf("%+v", seen)
	}
}

// A listener hears nothing of what was told ahead of it.
func TestP205SinceItJoined(t *testing.T) {
	for _, ahead := range []int{0, 1, 15, 16, 17, 40} {
		b := made(t, 1, 1)
		joins(t, b, 0, 0, 0)
		for v := range ahead {
			tells(t, b, 0, v, 1, 0)
		}
		joins(t, b, 0, 1, 0)
		hears(t, b, 1, nil, 0, 0)
		for v := 1; v <= 18; v++ {
			tells(t, b, 0, 100+v, 2, 0)
		}
		hears(t, b, 1, upTo(103, 118), 2, 0)
		hears(t, b, 0, upTo(103, 118), 2+ahead, 0)
	}
}

// As many as were told of its topic are heard, or told to be lost, in order and just once.
func TestP205AllAddsUp(t *testing.T) {
	for seed := range 200 {
		d := &dice{uint64(seed)}
		b := made(t, 2, 1)
		joins(t, b, 1, 0, 0)
		told, next, lostEver := 0, 1, 0
		for range 60 {
			for range d.below(2 * room) {
				told++
				tells(t, b, 1, told, 1, 0)
				tells(t, b, 0, -1, 0, 0)
			}
			l, lost, _ := b.Hear(0)
			if !slices.Equal(l, upTo(next+lost, told)) || lost > 0 && len(l) != room {
				t.Fatalf("behind %d of %d: %v, %d lost", next-1, told, l, lost)
			}
			next, lostEver = told+1, lostEver+lost
		}
		if lostEver == 0 {
			t.Error("nothing was lost")
		}
	}
}

// talk is what a listener is told of its own topic, and when it hears; between these others are told, join, hear, and locks are moved.
func talk(t *testing.T, seed int, disturb func(b *Bus, i int)) (heard [][]int, losts []int) {
	t.Helper()
	d := &dice{uint64(seed)}
	b := made(t, 4, 2)
	joins(t, b, 2, 0, 0)
	for i := range 200 {
		disturb(b, i)
		if d.below(14) > 0 {
			if n, e := b.Tell(2, i); n < 1 || e != 0 {
				t.Fatalf("Tell(2, %d) = %d, %d", i, n, e)
			}
			continue
		}
		l, lost, e := b.Hear(0)
		if e != 0 {
			t.Fatal(e)
		}
		heard, losts = append(heard, l), append(losts, lost)
	}
	return heard, losts
}

func TestP205OthersChangeNothing(t *testing.T) {
	for seed := range 50 {
		d := &dice{uint64(1000 + seed)}
		want, wantLost := talk(t, seed, func(*Bus, int) {})
		got, gotLost := talk(t, seed, func(b *Bus, i int) {
			for range d.below(20) {
				b.Tell(pick(d, -1, 0, 1, 3, 4), d.below(100))
			}
			b.Join(d.below(5))
			b.Hear(pick(d, -1, 1, 2, 3, 7, 8))
			b.Free(d.below(5), i)
			b.Set(d.below(5))
			b.Locked(d.below(5), i)
		})
		if !slices.EqualFunc(got, want, slices.Equal) || !slices.Equal(gotLost, wantLost) {
			t.Fatalf("%v, %v lost; without the others %v, %v lost", got, gotLost, want, wantLost)
		}
	}
}

// A lock that is freed again in time is free all along; as soon as nobody does so, it is set, and stays so.
func TestP205FreedAgain(t *testing.T) {
	for _, free := range []int{1, 2, 3, 7, 99, 100} {
		for k := range keys {
			b := made(t, 1, free)
			tick := 0
			for range 5 {
				frees(t, b, k, tick, 0)
				for range free {
					isLocked(t, b, k, tick, false, 0)
					tick++
				}
			}
			for range 2 * free {
				isLocked(t, b, k, tick, true, 0)
				tick++
			}
			frees(t, b, k, tick, 0)
			isLocked(t, b, k, tick, false, 0)
		}
	}
}

// To free a lock again counts from the last time, not from the first one.
func TestP205FreedTwice(t *testing.T) {
	for free := 1; free <= 12; free++ {
		for again := range free {
			b := made(t, 1, free)
			frees(t, b, 3, 5, 0)
			frees(t, b, 3, 5+again, 0)
			isLocked(t, b, 3, 5+again+free-1, false, 0)
			isLocked(t, b, 3, 5+again+free, true, 0)
		}
	}
}

// One that was set is set at every tick, also within the ticks for which it was free.
func TestP205SetUntilFreed(t *testing.T) {
	for k := range keys {
		b := made(t, 1, 100)
		frees(t, b, k, 3, 0)
		sets(t, b, k, 0)
		for tick := 3; tick < 300; tick++ {
			isLocked(t, b, k, tick, true, 0)
		}
		frees(t, b, k, 300, 0)
		isLocked(t, b, k, 399, false, 0)
		isLocked(t, b, k, 400, true, 0)
	}
}

// What is said of one lock, beside what is said of all others, is as if there were no others.
func TestP205NoLockHangsOnAnother(t *testing.T) {
	for seed := range 100 {
		free := 1 + seed%5
		d := &dice{uint64(seed)}
		b := made(t, 1, free)
		var alone [keys]*Bus
		for k := range alone {
			alone[k] = made(t, 1, free)
		}
		for tick := range 200 {
			k := d.below(keys)
			if d.below(3) == 0 {
				sets(t, b, k, 0)
				sets(t, alone[k], k, 0)
			} else {
				frees(t, b, k, tick, 0)
				frees(t, alone[k], k, tick, 0)
			}
			for k := range keys {
				want, e := alone[k].Locked(k, tick)
				isLocked(t, b, k, tick, want, e)
			}
		}
	}
}

// The same calls have the same answers, whatever is done to other buses between.
func TestR2Same(t *testing.T) {
	for seed := range 20 {
		other := made(t, 4, 2)
		want, wantLost := talk(t, seed, func(*Bus, int) {})
		got, gotLost := talk(t, seed, func(_ *Bus, i int) {
			other.Join(2)
			other.Tell(2, -i)
			other.Free(0, i)
		})
		if !slices.EqualFunc(got, want, slices.Equal) || !slices.Equal(gotLost, wantLost) {
			t.Fatal("not the same")
		}
	}
}
