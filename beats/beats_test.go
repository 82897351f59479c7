package beats

import (
	"math"
	"slices"
	"testing"
)

const most = 1<<31 - 1

// made are beats by n.
func made(t *testing.T, n int) *Beats {
	t.Helper()
	b, e := New(n)
	if b == nil || e != 0 {
		t.Fatalf("New(%d) = %v, %d", n, b, e)
	}
	return b
}

// beat has a beat at each of some ticks.
func beat(t *testing.T, b *Beats, ticks ...int) {
	t.Helper()
	for _, tick := range ticks {
		if e := b.Beat(tick); e != 0 {
			t.Fatalf("Beat(%d) = %d", tick, e)
		}
	}
}

// refused holds that there may be no beat at each of some ticks.
func refused(t *testing.T, b *Beats, ticks ...int) {
	t.Helper()
	for _, tick := range ticks {
		if e := b.Beat(tick); e != 9 {
			t.Fatalf("Beat(%d) = %d", tick, e)
		}
	}
}

// A rate, or none, as Rate tells it.
type told struct {
	rate int
	is   bool
}

func rate(b *Beats) told {
	v, is := b.Rate()
	return told{v, is}
}

// beaten are new beats by n, with one at each of some ticks.
func beaten(t *testing.T, n int, ticks []int) *Beats {
	t.Helper()
	b := made(t, n)
	beat(t, b, ticks...)
	return b
}

// rates are what Rate tells behind each of some ticks.
func rates(t *testing.T, n int, ticks []int) []told {
	t.Helper()
	b := made(t, n)
	var out []told
	for _, tick := range ticks {
		beat(t, b, tick)
		out = append(out, rate(b))
	}
	return out
}

func size(v int) int {
	if v < 0 {
		return -v
	}
	return v
}

// nearest is the whole number that, times den, is nearest to num; of two that are as near the greater one.
func nearest(num, den int) int {
	best := num/den - 2
	for v := best + 1; v <= num/den+2; v++ {
		if size(v*den-num) <= size(best*den-num) {
			best = v
		}
	}
	return best
}

// counting are those of some ticks that count by n.
func counting(n int, ticks []int) []int {
	for len(ticks) > n {
		ticks = ticks[1:]
	}
	return ticks
}

// words is the rate that the section 'Words' tells, said again.
func words(n int, ticks []int) told {
	c := counting(n, ticks)
	m := len(c)
	if m < 2 {
		return told{}
	}
	f, l := c[0], c[m-1]
	return told{nearest(600000*(m-1), l-f), true}
}

// held holds each rate of new beats against the words.
func held(t *testing.T, n int, ticks []int) {
	t.Helper()
	got := rates(t, n, ticks)
	for i := range ticks {
		if want := words(n, ticks[:i+1]); got[i] != want {
			t.Fatalf("by %d: %v: %v, want %v", n, ticks[:i+1], got[i], want)
		}
	}
}

// heldByAll does so by 2, by 3 .. by 8.
func heldByAll(t *testing.T, ticks []int) {
	t.Helper()
	for n := 2; n <= 8; n++ {
		held(t, n, ticks)
	}
}

// dice are numbers without an order to be seen, the same ones for the same seed.
type dice struct{ x uint64 }

func (d *dice) below(n int) int {
	d.x = d.x*6364136223846793005 + 1442695040888963407
	return int(d.x >> 33 % uint64(n))
}

// rising are up to so many ticks from one on, each at most so far behind the one ahead of it.
func (d *dice) rising(first, many, far int) []int {
	var out []int
	for tick := first; len(out) < many && tick <= most; tick += 1 + d.below(far) {
		out = append(out, tick)
	}
	return out
}

// fars are how far apart the ticks of a list may be.
func fars() []int {
	return []int{1, 2, 3, 12, 50, 1000, 40000, 1500000, 100000000, most}
}

// firsts are ticks that a list may begin with.
func firsts() []int {
	return []int{0, 1, 7, 36600, 1 << 20, 1 << 30, most - 1000, most - 1, most}
}

// lists are ticks that rise, of all kinds.
func lists(d *dice) [][]int {
	var out [][]int
	for _, far := range fars() {
		for _, first := range firsts() {
			out = append(out, d.rising(first, 40, far), d.rising(d.below(1000), 20, far))
		}
	}
	return out
}

// every are the ticks from one on, all k apart, up to so many.
func every(first, k, many int) []int {
	var out []int
	for i := 0; i < many && first+i*k <= most; i++ {
		out = append(out, first+i*k)
	}
	return out
}

// beyond are ticks that there are not.
func beyond() []int {
	return []int{-1, -2, -most, -most - 1, math.MinInt, math.MinInt + 1, most + 1, most + 2, 1 << 32, 1<<32 + 7, 1 << 40, math.MaxInt, math.MaxInt - 1}
}

// A new one has no beats: any tick may be the first one, and there is no rate.
func TestP121New(t *testing.T) {
	for n := 2; n <= 8; n++ {
		for _, tick := range firsts() {
			b := made(t, n)
			if got := rate(b); got != (told{}) {
				t.Errorf("by %d: the rate of no beats is %v", n, got)
			}
			beat(t, b, tick)
			if got := rate(b); got != (told{}) {
				t.Errorf("by %d: the rate of one beat at %d is %v", n, tick, got)
			}
		}
	}
}

// Behind a first beat far ahead of those that follow it the rate tells whether it counts.
func TestP121NewByHowMany(t *testing.T) {
	for n := 2; n <= 8; n++ {
		got := rates(t, n, append([]int{0}, every(1000, 1, 12)...))
		for i := 1; i < len(got); i++ {
			if counts := got[i].rate < 600000; !got[i].is || counts != (i < n) {
				t.Errorf("by %d: behind beat %d: %v", n, i+1, got[i])
			}
		}
	}
}

func TestP121Wrong(t *testing.T) {
	for _, n := range []int{1, 9, 0, -1, math.MinInt, math.MaxInt, -2, -8, 10, 16, 256 + 4, 1<<16 + 2, 1<<32 + 2, math.MinInt + 2, math.MaxInt - 1} {
		for range 2 {
			if b, e := New(n); b != nil || e != 2 {
				t.Errorf("New(%d) = %v, %d", n, b, e)
			}
		}
	}
}

func TestP122Nil(t *testing.T) {
	var none *Beats
	for _, b := range []*Beats{none, {}, new(Beats)} {
		for range 3 {
			for _, tick := range append(beyond(), 0, 1, 5, most) {
				if e := b.Beat(tick); e != 1 {
					t.Errorf("Beat(%d) of none = %d", tick, e)
				}
				if got := rate(b); got != (told{}) {
					t.Errorf("the rate of none is %v", got)
				}
			}
		}
	}
}

func TestP122Examples(t *testing.T) {
	for n := 2; n <= 8; n++ {
		b := made(t, n)
		beat(t, b, 5)
		refused(t, b, 5, 4, 1<<31, -1)
	}
}

// Ticks that there are not, ahead of the first beat and behind some.
func TestP122OutOfRange(t *testing.T) {
	for n := 2; n <= 8; n++ {
		b := made(t, n)
		refused(t, b, beyond()...)
		for _, tick := range []int{0, 1, 100, most - 1, most} {
			beat(t, b, tick)
			refused(t, b, beyond()...)
		}
	}
}

func TestP122Bounds(t *testing.T) {
	for n := 2; n <= 8; n++ {
		for _, first := range []int{0, most} {
			b := made(t, n)
			refused(t, b, -1, most+1)
			beat(t, b, first)
			refused(t, b, -1, most+1, first)
		}
		b := made(t, n)
		beat(t, b, 0, most)
		refused(t, b, -1, 0, 1, most-1, most, most+1)
	}
}

// The tick of the last beat, one below it and one above it.
func TestP122AboveTheLast(t *testing.T) {
	d := dice{122}
	for n := 2; n <= 8; n++ {
		for _, ticks := range lists(&d) {
			b := made(t, n)
			for _, tick := range ticks {
				beat(t, b, tick)
				refused(t, b, tick, tick-1, ticks[0])
			}
			last := ticks[len(ticks)-1]
			if last == most {
				refused(t, b, last+1)
			} else {
				beat(t, b, last+1)
				refused(t, b, last+1, last)
			}
		}
	}
}

func TestP123Examples(t *testing.T) {
	want := []told{{}, {75000, true}, {66667, true}, {69231, true}, {64286, true}}
	if got := rates(t, 4, []int{0, 8, 18, 26, 36}); !slices.Equal(got, want) {
		t.Errorf("by 4: %v, want %v", got, want)
	}
	for _, c := range []struct {
		n     int
		ticks []int
		want  told
	}{
		{2, nil, told{}},
		{2, []int{most}, told{}},
		{2, []int{0, 1}, told{600000, true}},
		{8, []int{0, 1}, told{600000, true}},
		{8, []int{3, 5, 9}, told{200000, true}},
		{3, []int{1, 2, 3, 5}, told{400000, true}},
		{2, []int{0, 10}, told{60000, true}},
		{2, []int{0, 10, 17}, told{85714, true}},
		{3, []int{0, 10, 17}, told{70588, true}},
		{2, []int{0, 400000}, told{2, true}},
		{2, []int{0, 1200000}, told{1, true}},
		{2, []int{0, 1200001}, told{0, true}},
	} {
		b := beaten(t, c.n, c.ticks)
		for range 3 {
			if got := rate(b); got != c.want {
				t.Errorf("by %d: %v: %v, want %v", c.n, c.ticks, got, c.want)
			}
		}
	}
}

// No beat, one, two .. n, one more than n and further ones: by hand, 10 ticks apart but for the first two, which are 70 apart.
func TestP123HowMany(t *testing.T) {
	ticks := append([]int{0}, every(70, 10, 12)...)
	slow := []told{{}, {8571, true}, {15000, true}, {20000, true}, {24000, true}, {27273, true}, {30000, true}, {32308, true}}
	for n := 2; n <= 8; n++ {
		if got := rate(made(t, n)); got != (told{}) {
			t.Errorf("by %d: the rate of no beats is %v", n, got)
		}
		for i, got := range rates(t, n, ticks) {
			want := told{60000, true}
			if i < n {
				want = slow[i]
			}
			if got != want {
				t.Errorf("by %d: behind beat %d: %v, want %v", n, i+1, got, want)
			}
		}
	}
}

// spread are m beats, the last one so far behind the first.
func spread(first, m, far int) []int {
	return append(every(first, 1, m-1), first+far)
}

// Quotients that are half of a whole one, and those that are just above and just below it.
func TestP123Halves(t *testing.T) {
	seen := 0
	for m := 2; m <= 8; m++ {
		for odd := 1; odd <= 100000; odd += 2 {
			far := 1200000 * (m - 1) / odd
			if 1200000*(m-1)%odd != 0 || far < m {
				continue
			}
			seen++
			for _, first := range []int{0, 12345, most - far - 1} {
				for n := m; n <= 8; n++ {
					if got := rate(beaten(t, n, spread(first, m, far))); got != (told{(odd + 1) / 2, true}) {
						t.Errorf("by %d: %d beats, %d apart, %d halves: %v", n, m, far, odd, got)
					}
					held(t, n, spread(first, m, far-1))
					held(t, n, spread(first, m, far+1))
				}
			}
			if got := rate(beaten(t, m, spread(0, m, far+1))); got.rate > odd/2 {
				t.Errorf("by %d: one tick more than %d halves: %v", m, odd, got)
			}
		}
	}
	if seen < 80 {
		t.Errorf("only %d halves were tried", seen)
	}
}

func TestP123OneTickApart(t *testing.T) {
	for n := 2; n <= 8; n++ {
		for _, first := range []int{0, 1, 1000000, most - 29} {
			for i, got := range rates(t, n, every(first, 1, 30)) {
				if want := (told{600000, true}); i > 0 && got != want {
					t.Errorf("by %d: behind beat %d from %d on: %v, want %v", n, i+1, first, got, want)
				}
			}
		}
	}
}

// The first and the last beat at 0 and at Most.
func TestP123FirstAndLast(t *testing.T) {
	for n := 2; n <= 8; n++ {
		for m := 2; m <= 10; m++ {
			near, far := spread(0, m, most), append([]int{0}, every(most-m+2, 1, m-1)...)
			held(t, n, near)
			held(t, n, far)
			if m > n {
				continue
			}
			for _, ticks := range [][]int{near, far} {
				if got := rate(beaten(t, n, ticks)); got != (told{0, true}) {
					t.Errorf("by %d: %v: %v", n, ticks, got)
				}
			}
		}
		if got := rate(beaten(t, n, []int{most - 1, most})); got != (told{600000, true}) {
			t.Errorf("by %d: of the last two ticks: %v", n, got)
		}
	}
}

// Every distance of two beats up to one at which the rate is long next to nothing.
func TestP123AllDistances(t *testing.T) {
	for far := 1; far <= 3000; far++ {
		heldByAll(t, []int{0, far})
		heldByAll(t, []int{0, 1, far + 1, 2*far + 1})
	}
	for far := 1199900; far <= 1200100; far++ {
		held(t, 2, []int{0, far})
	}
}

// Every list of so many distances up to a few ticks.
func TestP123AllLists(t *testing.T) {
	for x := range 4 * 4 * 4 * 4 * 4 * 4 {
		ticks := []int{0}
		for i := range 6 {
			ticks = append(ticks, ticks[i]+1+x%4)
			x /= 4
		}
		heldByAll(t, ticks)
	}
}

func TestP123ManyLists(t *testing.T) {
	d := dice{123}
	for range 20 {
		for _, ticks := range lists(&d) {
			heldByAll(t, ticks)
		}
	}
}

// Rate may be asked as often as one likes, or not at all.
func TestP123Asked(t *testing.T) {
	d := dice{1230}
	for n := 2; n <= 8; n++ {
		for _, ticks := range lists(&d) {
			b := made(t, n)
			for i, tick := range ticks {
				beat(t, b, tick)
				want := words(n, ticks[:i+1])
				for range d.below(4) {
					if got := rate(b); got != want {
						t.Fatalf("by %d: %v: %v, want %v", n, ticks[:i+1], got, want)
					}
				}
			}
		}
	}
}

// Beats by one number and by several, by turns: each goes by its own.
func TestBeatsApart(t *testing.T) {
	d := dice{12}
	by := []int{2, 4, 4, 8}
	all := make([]*Beats, len(by))
	own := make([][]int, len(by))
	for i, n := range by {
		all[i], own[i] = made(t, n), d.rising(d.below(100), 400, 30)
	}
	had := make([]int, len(by))
	for range 1200 {
		i := d.below(len(by))
		if had[i] == len(own[i]) {
			continue
		}
		beat(t, all[i], own[i][had[i]])
		had[i]++
		for k, n := range by {
			if got, want := rate(all[k]), words(n, own[k][:had[k]]); got != want {
				t.Fatalf("by %d: %v: %v, want %v", n, counting(n, own[k][:had[k]]), got, want)
			}
		}
		if b, e := New(9); b != nil || e != 2 {
			t.Fatalf("New(9) = %v, %d", b, e)
		}
		if e := new(Beats).Beat(had[i]); e != 1 {
			t.Fatalf("Beat of none = %d", e)
		}
	}
}
