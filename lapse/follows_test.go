package lapse

import (
	"slices"
	"testing"
)

// upTo are the ticks from one on, up to so many, none above Most.
func upTo(first, many int) []int {
	var out []int
	for tick := first; tick < first+many && tick <= most; tick++ {
		out = append(out, tick)
	}
	return out
}

// What is stale stays so, at every tick up to Most, till something is heard; then it no longer is.
func TestP134StaysStale(t *testing.T) {
	d := dice{134}
	for _, limit := range []int{1, 2, 3, 10, 100, 1000, 10000} {
		for _, things := range lists(&d, limit) {
			l := made(t, limit)
			behind := limit + 1
			for _, x := range things {
				if behind <= x.tick {
					stands(t, l, stale, behind, x.tick)
					stands(t, l, stale, behind+d.below(x.tick-behind+1))
				}
				if behind <= most {
					stands(t, l, stale, behind, behind+d.below(most-behind+1), most)
					stands(t, l, stale, upTo(behind, 20)...)
				}
				hear(t, l, x)
				if state(t, l, x.tick) == stale {
					t.Fatalf("by %d: stale at %d, where %v was heard", limit, x.tick, x)
				}
				behind = x.tick + limit + 1
			}
		}
	}
}

// From tick to tick it is never stale and then not, with nothing heard between.
func TestP134TickByTick(t *testing.T) {
	for _, limit := range []int{1, 2, 3, 17, 300} {
		for _, things := range [][]thing{nil, {{0, false}}, {{0, true}}, {{limit, false}}, {{5000, true}, {5000, false}}, {{most - 2*limit, true}}, {{most, false}}} {
			l, first := after(t, limit, things...), 0
			if len(things) > 0 {
				first = things[len(things)-1].tick
			}
			was := false
			for _, tick := range upTo(first, 4*limit+10) {
				is := state(t, l, tick) == stale
				if was && !is {
					t.Fatalf("by %d: behind %v: stale, and at %d no longer", limit, things, tick)
				}
				was = is
			}
		}
	}
}

// What was heard is never stale within the limit, and always behind it.
func TestP134WithinTheLimit(t *testing.T) {
	for _, limit := range []int{1, 2, 3, 64, 1000, 10000} {
		for _, h := range []int{0, 1, limit, limit + 1, 777777, most - 2*limit, most - limit, most - 1, most} {
			for _, isOff := range []bool{false, true} {
				l := after(t, limit, thing{h, isOff})
				for _, tick := range upTo(h, 2*limit+5) {
					if is, behind := state(t, l, tick) == stale, tick-h > limit; is != behind {
						t.Fatalf("by %d: heard at %d (off %v): at %d stale %v", limit, h, isOff, tick, is)
					}
				}
			}
		}
	}
}

// later are things, all of them so many ticks later.
func later(things []thing, by int) []thing {
	var out []thing
	for _, x := range things {
		out = append(out, thing{x.tick + by, x.off})
	}
	return out
}

// course is how one stands, behind each thing of a list, at so many ticks behind it; -1 where there is no such tick.
func course(t *testing.T, limit int, things []thing, agos []int) []int {
	t.Helper()
	l := made(t, limit)
	var out []int
	for _, x := range things {
		hear(t, l, x)
		for _, ago := range agos {
			if x.tick+ago > most {
				out = append(out, -1)
				continue
			}
			out = append(out, state(t, l, x.tick+ago))
		}
	}
	return out
}

// Up to so much later that the last tick that is asked for is Most.
func TestP135Later(t *testing.T) {
	d := dice{135}
	for _, limit := range limits() {
		agos := []int{0, 1, limit / 2, limit - 1, limit, limit + 1, limit + 2}
		for _, things := range lists(&d, limit) {
			room := most - things[len(things)-1].tick - (limit + 2)
			if room < 0 {
				continue
			}
			want := course(t, limit, things, agos)
			for _, by := range []int{1, limit, limit + 1, room / 2, room, d.below(room + 1)} {
				if by > room {
					continue
				}
				if got := course(t, limit, later(things, by), agos); !slices.Equal(got, want) {
					t.Fatalf("by %d: %v: %v; %d ticks later %v", limit, things, want, by, got)
				}
			}
		}
	}
}

// Earlier, too: as if the first thing were heard at 0.
func TestP135Earlier(t *testing.T) {
	d := dice{1350}
	for _, limit := range limits() {
		agos := []int{0, 1, limit, limit + 1}
		for _, things := range lists(&d, limit) {
			if most-things[len(things)-1].tick <= limit {
				continue
			}
			got := course(t, limit, later(things, -things[0].tick), agos)
			if want := course(t, limit, things, agos); !slices.Equal(got, want) {
				t.Fatalf("by %d: %v: %v; from 0 on %v", limit, things, want, got)
			}
		}
	}
}

// wrong are ticks at which nothing may be heard or asked behind something at a tick.
func wrong(d *dice, last int) []int {
	if last == 0 {
		return beyond()
	}
	return append(beyond(), last-1, 0, d.below(last))
}

// It stands the same ahead of calls that are refused and behind each of them, and behind further things.
func TestP136Refused(t *testing.T) {
	d := dice{136}
	for _, limit := range limits() {
		for _, things := range lists(&d, limit) {
			l := made(t, limit)
			for _, no := range beyond() {
				refused(t, l, no)
				agrees(t, l, limit, nil)
			}
			for i, x := range things {
				hear(t, l, x)
				for _, no := range wrong(&d, x.tick) {
					refused(t, l, no)
					agrees(t, l, limit, things[:i+1])
				}
			}
		}
	}
}

// What was refused is not the last thing, nor off: something may still be heard at the tick of the last one, or, ahead of the first one, at 0.
func TestP136RefusedIsNotHeard(t *testing.T) {
	for _, limit := range limits() {
		l := made(t, limit)
		refused(t, l, beyond()...)
		stands(t, l, none, 0, limit)
		stands(t, l, stale, limit+1)
		hear(t, l, thing{0, false})
		for tick := 1; tick < 50; tick++ {
			hear(t, l, thing{tick, tick%2 == 0})
			refused(t, l, beyond()...)
			refused(t, l, tick-1, 0)
			hear(t, l, thing{tick, tick%2 == 1})
			refused(t, l, tick-1, 0)
			stands(t, l, []int{fresh, off}[tick%2], tick)
		}
	}
}

// To ask changes nothing: one that is asked much, at late ticks and early ones, stands as one that is asked once.
func TestP136Asked(t *testing.T) {
	d := dice{1360}
	for _, limit := range limits() {
		for _, things := range lists(&d, limit) {
			asked, end := made(t, limit), d.below(len(things))
			for i, x := range things[:end+1] {
				ahead := *asked
				agrees(t, asked, limit, things[:i])
				for range 3 {
					for _, tick := range near(limit, things[:i]) {
						state(t, asked, tick)
					}
				}
				if *asked != ahead {
					t.Fatalf("by %d: behind %v: asked, it is %v, not %v", limit, things[:i], *asked, ahead)
				}
				hear(t, asked, x)
			}
			silent := after(t, limit, things[:end+1]...)
			for _, tick := range near(limit, things[:end+1]) {
				if got, want := state(t, asked, tick), state(t, silent, tick); got != want {
					t.Fatalf("by %d: behind %v: at %d %d, not asked %d", limit, things[:end+1], tick, got, want)
				}
			}
		}
	}
}

// What is asked at late ticks, where it is stale, keeps nothing from being heard at earlier ones.
func TestP136AskedLate(t *testing.T) {
	for _, limit := range limits() {
		l := made(t, limit)
		stands(t, l, stale, most)
		for tick := range 50 {
			hear(t, l, thing{tick, false})
			stands(t, l, fresh, tick)
			stands(t, l, stale, most)
			stands(t, l, held, tick+1, tick+limit)
			hear(t, l, thing{tick, true})
			stands(t, l, stale, most, tick+limit+1)
			stands(t, l, off, tick)
		}
	}
}
