package beats

import (
	"slices"
	"testing"
)

// apart are some distances.
func apart() []int {
	return []int{1, 2, 3, 5, 7, 8, 9, 10, 11, 13, 64, 100, 128, 640, 999, 3200, 80000, 240000, 400000, 599999, 600000, 600001, 1199999, 1200000, 1200001, most / 7, most / 2, most}
}

func TestP124AllApart(t *testing.T) {
	for n := 2; n <= 8; n++ {
		for _, k := range apart() {
			want := told{nearest(600000, k), true}
			for i, got := range rates(t, n, every(0, k, 30)) {
				if i > 0 && got != want {
					t.Errorf("by %d: all %d apart: behind beat %d %v, want %v", n, k, i+1, got, want)
				}
			}
		}
	}
}

func TestP124AllApartByHand(t *testing.T) {
	for _, c := range []struct{ k, want int }{{1, 600000}, {2, 300000}, {7, 85714}, {8, 75000}, {9, 66667}, {10, 60000}, {128, 4688}, {80000, 8}, {240000, 3}, {240001, 2}, {400000, 2}, {1200000, 1}, {1200001, 0}, {most / 12, 0}} {
		for n := 2; n <= 8; n++ {
			for i, got := range rates(t, n, every(5, c.k, 12)) {
				if i > 0 && got != (told{c.want, true}) {
					t.Errorf("by %d: all %d apart: behind beat %d %v, want %d", n, c.k, i+1, got, c.want)
				}
			}
		}
	}
}

// later are ticks, all of them so many later.
func later(ticks []int, by int) []int {
	var out []int
	for _, tick := range ticks {
		out = append(out, tick+by)
	}
	return out
}

// Up to so much later that the last beat is at Most.
func TestP124Later(t *testing.T) {
	d := dice{124}
	for n := 2; n <= 8; n++ {
		for _, ticks := range lists(&d) {
			want := rates(t, n, ticks)
			room := most - ticks[len(ticks)-1]
			for _, by := range []int{0, 1, room / 2, room, d.below(room + 1)} {
				if by > room {
					continue
				}
				if got := rates(t, n, later(ticks, by)); !slices.Equal(got, want) {
					t.Fatalf("by %d: %v: %v; %d ticks later %v", n, ticks, want, by, got)
				}
			}
		}
	}
}

// Earlier, too: as if the first beat were at 0.
func TestP124Earlier(t *testing.T) {
	d := dice{1240}
	for n := 2; n <= 8; n++ {
		for _, ticks := range lists(&d) {
			if got, want := rates(t, n, later(ticks, -ticks[0])), rates(t, n, ticks); !slices.Equal(got, want) {
				t.Fatalf("by %d: %v: %v; from 0 on %v", n, ticks, want, got)
			}
		}
	}
}

// distances are those of ticks that follow one another.
func distances(ticks []int) []int {
	var out []int
	for i := 1; i < len(ticks); i++ {
		out = append(out, ticks[i]-ticks[i-1])
	}
	return out
}

func TestP125Between(t *testing.T) {
	d := dice{125}
	for n := 2; n <= 8; n++ {
		for _, ticks := range lists(&d) {
			for i, got := range rates(t, n, ticks) {
				if i == 0 {
					continue
				}
				far := distances(counting(n, ticks[:i+1]))
				low, high := nearest(600000, slices.Max(far)), nearest(600000, slices.Min(far))
				if !got.is || got.rate < low || got.rate > high {
					t.Fatalf("by %d: %v: %v, not from %d to %d", n, ticks[:i+1], got, low, high)
				}
			}
		}
	}
}

// A long distance, and a short one, count as long as both of their beats do.
func TestP125OfThoseThatCount(t *testing.T) {
	for n := 2; n <= 8; n++ {
		for _, c := range []struct{ odd, k int }{{1, 10}, {5000, 10}} {
			ticks := append([]int{0}, every(c.odd, c.k, 20)...)
			for i, got := range rates(t, n, ticks) {
				if i >= n && got != (told{60000, true}) {
					t.Errorf("by %d: behind %d other distances: %v", n, i-1, got)
				}
				if i > 0 && i < n && got.rate == 60000 {
					t.Errorf("by %d: among %d distances: %v", n, i, got)
				}
			}
		}
	}
}

// wrong are ticks at which there may be no beat behind one at a tick.
func wrong(d *dice, last int) []int {
	return append(beyond(), last, last-1, 0, d.below(last+1))
}

// The rate is the same ahead of a beat that is refused and behind it, and behind further beats.
func TestP126Refused(t *testing.T) {
	d := dice{126}
	for n := 2; n <= 8; n++ {
		for _, ticks := range lists(&d) {
			b := made(t, n)
			refused(t, b, beyond()...)
			if got := rate(b); got != (told{}) {
				t.Fatalf("by %d: the rate of none but refused beats is %v", n, got)
			}
			want := rates(t, n, ticks)
			for i, tick := range ticks {
				beat(t, b, tick)
				ahead := rate(b)
				for _, no := range wrong(&d, tick) {
					refused(t, b, no)
					if got := rate(b); got != ahead || got != want[i] {
						t.Fatalf("by %d: %v: %v, behind Beat(%d), which was refused, %v, want %v", n, ticks[:i+1], ahead, no, got, want[i])
					}
				}
			}
		}
	}
}

// A beat that was refused is not the last one: one at the tick behind the last may follow.
func TestP126RefusedIsNotTheLast(t *testing.T) {
	for n := 2; n <= 8; n++ {
		b := made(t, n)
		refused(t, b, beyond()...)
		beat(t, b, 0)
		for tick := 1; tick < 50; tick++ {
			refused(t, b, beyond()...)
			refused(t, b, tick-1, 0)
			beat(t, b, tick)
		}
		if got := rate(b); got != (told{600000, true}) {
			t.Errorf("by %d: %v", n, got)
		}
	}
}

// Many more beats than n change nothing but which ones count.
func TestManyBeats(t *testing.T) {
	d := dice{1260}
	for n := 2; n <= 8; n++ {
		for _, far := range []int{1, 20, 3000, 100000} {
			b, ticks := made(t, n), d.rising(d.below(50), 5000, far)
			for i, tick := range ticks {
				beat(t, b, tick)
				count := counting(n, ticks[:i+1])
				if got, want := rate(b), rate(beaten(t, n, count)); got != want {
					t.Fatalf("by %d: behind %d beats, the last ones %v: %v, want %v", n, i+1, count, got, want)
				}
			}
		}
	}
}

// What is kept is what counts, and a further beat writes into no room of what was kept ahead of it.
func TestKeptSharesNoRoom(t *testing.T) {
	for n := 2; n <= 8; n++ {
		b := made(t, n)
		for _, tick := range every(0, 3, 100) {
			ahead := b.last
			room := slices.Clone(ahead[:cap(ahead)])
			beat(t, b, tick)
			if !slices.Equal(ahead[:cap(ahead)], room) {
				t.Fatalf("by %d: Beat(%d) changed %v", n, tick, room)
			}
			if len(b.last) > n || cap(b.last) > 2*n {
				t.Fatalf("by %d: behind Beat(%d) %d are kept, with room for %d", n, tick, len(b.last), cap(b.last))
			}
		}
	}
}
