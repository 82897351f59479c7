package iir

import (
	"math"
	"slices"
	"testing"
)

const most = 1<<31 - 1

// made is a slow number of a part.
func made(t *testing.T, part int) *Slow {
	t.Helper()
	s, e := New(part)
	if s == nil || e != 0 {
		t.Fatalf("New(%d) = %v, %d", part, s, e)
	}
	return s
}

// push is what a slow number answers to a number.
func push(t *testing.T, s *Slow, v int) int {
	t.Helper()
	got, e := s.Push(v)
	if e != 0 {
		t.Fatalf("Push(%d) = %d, %d", v, got, e)
	}
	return got
}

// pushed are the answers of a new slow number to a list of numbers.
func pushed(t *testing.T, part int, all []int) []int {
	t.Helper()
	s := made(t, part)
	var out []int
	for _, v := range all {
		out = append(out, push(t, s, v))
	}
	return out
}

// inBounds is a number brought into bounds, said again.
func inBounds(v int) int {
	if v > most {
		return most
	}
	if v < -most {
		return -most
	}
	return v
}

func size(v int) int {
	if v < 0 {
		return -v
	}
	return v
}

// nearest is the whole number that, 1000 times, is nearest to a product; of two that are as near the one that is farther from 0.
func nearest(product int) int {
	best := product/1000 - 2
	for v := best + 1; v <= product/1000+2; v++ {
		off, least := size(1000*v-product), size(1000*best-product)
		if off < least || off == least && size(v) > size(best) {
			best = v
		}
	}
	return best
}

// words are the places that the section 'Words' tells, said again.
func words(part int, all []int) []int {
	var out []int
	at := 0
	for i, v := range all {
		if i == 0 {
			at = inBounds(v)
		} else {
			at += nearest(part * (inBounds(v) - at))
		}
		out = append(out, at)
	}
	return out
}

// held holds each answer of a new slow number against the words.
func held(t *testing.T, part int, all []int) {
	t.Helper()
	got, want := pushed(t, part, all), words(part, all)
	for i := range all {
		if got[i] != want[i] {
			t.Fatalf("a part of %d: %v: %d, want %d", part, all[:i+1], got[i], want[i])
		}
	}
}

// dice are numbers without an order to be seen, the same ones for the same seed.
type dice struct{ x uint64 }

func (d *dice) below(n int) int {
	d.x = d.x*6364136223846793005 + 1442695040888963407
	return int(d.x >> 33 % uint64(n))
}

// mixed is a list in another order.
func (d *dice) mixed(all []int) []int {
	out := slices.Clone(all)
	for i := len(out) - 1; i > 0; i-- {
		j := d.below(i + 1)
		out[i], out[j] = out[j], out[i]
	}
	return out
}

// some are so many numbers around 0, of so many kinds.
func (d *dice) some(many, kinds int) []int {
	var out []int
	for range many {
		out = append(out, d.below(kinds)-kinds/2)
	}
	return out
}

// parts are some that there may be.
func parts() []int {
	return []int{1, 2, 3, 7, 100, 250, 333, 499, 500, 501, 667, 750, 998, 999, 1000}
}

// kinds are how many kinds of numbers a list may have.
func kinds() []int { return []int{2, 20, 3000, 1000000, 1 << 31} }

// edges are numbers at bounds and beyond.
func edges() []int {
	return []int{most, -most, most + 1, -most - 1, most - 1, -most + 1, math.MaxInt, math.MinInt, 0, 1, -1, 1 << 40, -1 << 40}
}

// places are some that a slow number may be at.
func places() []int {
	return []int{0, 1, -1, 500, -500, 36600, -36600, most, -most, most - 1, 1 - most}
}

func contrary(all []int) []int {
	var out []int
	for _, v := range all {
		out = append(out, -v)
	}
	return out
}

// A new one is nowhere: the first number is where it is, whatever the part.
func TestP111New(t *testing.T) {
	for part := 1; part <= 1000; part++ {
		for _, v := range []int{-7, 0, 1, 499, 100001, most, -most} {
			if got := push(t, made(t, part), v); got != v {
				t.Errorf("a part of %d: the first answer to %d is %d", part, v, got)
			}
		}
	}
}

// Each part goes its own way: of a million so many thousands.
func TestP111NewOfWhichPart(t *testing.T) {
	for part := 1; part <= 1000; part++ {
		if got := pushed(t, part, []int{0, 1000000})[1]; got != 1000*part {
			t.Errorf("a part of %d: from 0 by 1000000 to %d", part, got)
		}
		if got := pushed(t, part, []int{0, -1000000})[1]; got != -1000*part {
			t.Errorf("a part of %d: from 0 by -1000000 to %d", part, got)
		}
	}
}

func TestP111Wrong(t *testing.T) {
	for _, part := range []int{0, 1001, 1002, 2000, 1 << 20, -1, -2, -500, -1000, -1001, math.MinInt, math.MinInt + 1, math.MaxInt, math.MaxInt - 1, 1<<32 + 3, 1<<16 + 1} {
		for range 2 {
			if s, e := New(part); s != nil || e != 2 {
				t.Errorf("New(%d) = %v, %d", part, s, e)
			}
		}
	}
}

func TestP112Nil(t *testing.T) {
	var none *Slow
	for _, s := range []*Slow{none, {}, new(Slow)} {
		for range 3 {
			for _, v := range append(edges(), 5) {
				if got, e := s.Push(v); got != 0 || e != 1 {
					t.Errorf("Push(%d) of none = %d, %d", v, got, e)
				}
			}
		}
	}
}

func TestP112Examples(t *testing.T) {
	for _, c := range []struct {
		part      int
		all, want []int
	}{
		{500, []int{100, 200, 201, 0, -1}, []int{100, 150, 176, 88, 43}},
		{1, []int{0, 499, 500}, []int{0, 0, 1}},
		{1, []int{0, -499, -500}, []int{0, 0, -1}},
		{1, []int{1, 500, 501, -499}, []int{1, 1, 2, 1}},
		{1000, []int{4, -9, 0}, []int{4, -9, 0}},
		{999, []int{0, 500, 501}, []int{0, 500, 501}},
		{999, []int{0, 501, 0, -501}, []int{0, 500, 0, -500}},
		{7, []int{0, 71, 72, 72}, []int{0, 0, 1, 1}},
		{333, []int{0, 1, 2, 3, 3, 3}, []int{0, 0, 1, 2, 2, 2}},
		{333, []int{10, 1, -2, 4}, []int{10, 7, 4, 4}},
		{500, []int{0, 1, 1}, []int{0, 1, 1}},
		{500, []int{0, -1, -1}, []int{0, -1, -1}},
		{500, []int{-2, 1, -1}, []int{-2, 0, -1}},
	} {
		if got := pushed(t, c.part, c.all); !slices.Equal(got, c.want) {
			t.Errorf("a part of %d: %v: %v, want %v", c.part, c.all, got, c.want)
		}
		held(t, c.part, c.all)
	}
}

func TestP112Shapes(t *testing.T) {
	for _, part := range parts() {
		var rising, falling, alike, stair, squares, teeth []int
		for v := range 120 {
			rising = append(rising, 37*v)
			falling = append(falling, -37*v)
			alike = append(alike, -42)
			stair = append(stair, v/40*100000)
			squares = append(squares, v*v-500)
			teeth = append(teeth, 11*v*(1-v%2*2))
		}
		for _, all := range [][]int{rising, falling, alike, stair, squares, teeth} {
			held(t, part, all)
			held(t, part, contrary(all))
		}
		for i, got := range pushed(t, part, alike) {
			if got != -42 {
				t.Errorf("a part of %d: the answer %d to -42 all along is %d", part, i, got)
			}
		}
	}
}

// moved holds a step from a place by a difference against what it must come to, where neither leaves the bounds.
func moved(t *testing.T, part, from, difference, want int) {
	t.Helper()
	if v := from + difference; v != inBounds(v) {
		return
	}
	if got := pushed(t, part, []int{from, from + difference})[1]; got != from+want {
		t.Errorf("a part of %d: from %d by %d: %d, want %d", part, from, difference, got, from+want)
	}
}

// p times a difference that is, beside some thousands, 499, 500, 501, 0, 1 or 999, either way.
func TestP112Halves(t *testing.T) {
	seen := 0
	for part := 1; part <= 1000; part++ {
		for _, whole := range []int{0, 1, 2, 7, 1000, 123456} {
			for _, c := range []struct{ rest, more int }{{499, 0}, {500, 1}, {501, 1}, {0, 0}, {1, 0}, {999, 1}} {
				product := 1000*whole + c.rest
				if product%part != 0 {
					continue
				}
				seen++
				for _, from := range places() {
					moved(t, part, from, product/part, whole+c.more)
					moved(t, part, from, -product/part, -whole-c.more)
				}
			}
		}
	}
	if seen < 500 {
		t.Errorf("only %d differences were tried", seen)
	}
}

func TestP112NoDifference(t *testing.T) {
	for part := 1; part <= 1000; part++ {
		for _, from := range places() {
			moved(t, part, from, 0, 0)
		}
	}
}

func TestP112Bounds(t *testing.T) {
	for _, part := range parts() {
		for _, v := range edges() {
			for _, got := range pushed(t, part, []int{v, v, inBounds(v), v}) {
				if got != inBounds(v) {
					t.Errorf("a part of %d: Push(%d) = %d", part, v, got)
				}
			}
			for _, w := range edges() {
				held(t, part, []int{v, w, v, 0, w})
			}
		}
		d := dice{uint64(part)}
		for range 50 {
			held(t, part, d.mixed(append(edges(), edges()...)))
		}
	}
}

// A number beyond a bound counts as the bound, ahead of all else; from one bound to the other the difference has none.
func TestP112BoundsFirst(t *testing.T) {
	for _, c := range []struct {
		part      int
		all, want []int
	}{
		{1, []int{-most, most}, []int{-most, -most + 4294967}},
		{1, []int{most, -most}, []int{most, most - 4294967}},
		{1, []int{math.MinInt, math.MaxInt}, []int{-most, -most + 4294967}},
		{1, []int{0, math.MaxInt, math.MinInt}, []int{0, 2147484, -2147}},
		{500, []int{most + 1, -most - 1}, []int{most, 0}},
		{500, []int{-most - 1, most + 1}, []int{-most, 0}},
		{500, []int{-most + 1, math.MaxInt, math.MinInt}, []int{-most + 1, 1, -1073741823}},
		{999, []int{-most, most}, []int{-most, 2143188680}},
		{1000, []int{-most, most, -most}, []int{-most, most, -most}},
		{1000, []int{math.MinInt, math.MaxInt, math.MinInt}, []int{-most, most, -most}},
	} {
		if got := pushed(t, c.part, c.all); !slices.Equal(got, c.want) {
			t.Errorf("a part of %d: %v: %v, want %v", c.part, c.all, got, c.want)
		}
	}
}

// Every list of so many numbers out of so few kinds, on both sides of 0.
func TestP112AllLists(t *testing.T) {
	for _, c := range []struct{ part, kinds, long int }{{500, 5, 5}, {333, 7, 4}, {250, 9, 4}, {999, 5, 5}, {1000, 3, 6}} {
		many := 1
		for range c.long {
			many *= c.kinds
		}
		for x := range many {
			all := make([]int, c.long)
			for i := range all {
				all[i], x = x%c.kinds-c.kinds/2, x/c.kinds
			}
			held(t, c.part, all)
		}
	}
}

func TestP112ManyLists(t *testing.T) {
	d := dice{112}
	for part := 1; part <= 1000; part++ {
		for _, n := range kinds() {
			held(t, part, d.some(30, n))
		}
	}
	for _, part := range parts() {
		for _, n := range kinds() {
			for range 40 {
				held(t, part, d.some(60, n))
			}
		}
	}
}

// Slow numbers of one part and of several, pushed by turns: each is where its own numbers bring it.
func TestSlowNumbersApart(t *testing.T) {
	d := dice{11}
	all := []*Slow{made(t, 7), made(t, 7), made(t, 500), made(t, 1000)}
	part := []int{7, 7, 500, 1000}
	own := make([][]int, len(all))
	for range 600 {
		i, v := d.below(len(all)), d.below(100000)-50000
		own[i] = append(own[i], v)
		want := words(part[i], own[i])
		if got := push(t, all[i], v); got != want[len(want)-1] {
			t.Fatalf("a part of %d: %v: %d, want %d", part[i], own[i], got, want[len(want)-1])
		}
		if s, e := New(1001); s != nil || e != 2 {
			t.Fatalf("New(1001) = %v, %d", s, e)
		}
		if got, e := new(Slow).Push(v); got != 0 || e != 1 {
			t.Fatalf("Push(%d) of none = %d, %d", v, got, e)
		}
	}
}
