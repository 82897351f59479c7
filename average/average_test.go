package average

import (
	"math"
	"slices"
	"testing"
)

const most = 1<<31 - 1

// made is a mean of n.
func made(t *testing.T, n int) *Average {
	t.Helper()
	a, e := New(n)
	if a == nil || e != 0 {
		t.Fatalf("New(%d) = %v, %d", n, a, e)
	}
	return a
}

// push is what a mean answers to a number.
func push(t *testing.T, a *Average, v int) int {
	t.Helper()
	got, e := a.Push(v)
	if e != 0 {
		t.Fatalf("Push(%d) = %d, %d", v, got, e)
	}
	return got
}

// pushed are the answers to a list of numbers.
func pushed(t *testing.T, a *Average, all []int) []int {
	t.Helper()
	var out []int
	for _, v := range all {
		out = append(out, push(t, a, v))
	}
	return out
}

// final is the last answer of a new mean of n to a list of numbers.
func final(t *testing.T, n int, all []int) int {
	t.Helper()
	return pushed(t, made(t, n), all)[len(all)-1]
}

// inBounds is a number brought into bounds, said again.
func inBounds(v int) int {
	if v > most {
		return most
	}
	if v < -most {
		return -most
	}
	return v
}

// lastOf are the last n of all numbers, or all, as long as there are fewer, brought into bounds.
func lastOf(n int, all []int) []int {
	var out []int
	for i, v := range all {
		if i >= len(all)-n {
			out = append(out, inBounds(v))
		}
	}
	return out
}

func sumOf(all []int) int {
	sum := 0
	for _, v := range all {
		sum += v
	}
	return sum
}

func size(v int) int {
	if v < 0 {
		return -v
	}
	return v
}

// words is the section 'Words' said again, over all numbers there ever were: of the whole numbers around the quotient the one that, k times, is nearest to the sum; of two that are as near the one that is farther from 0.
func words(n int, all []int) int {
	last := lastOf(n, all)
	k, sum := len(last), sumOf(last)
	best := sum/k - 2
	for v := best + 1; v <= sum/k+2; v++ {
		off, least := size(k*v-sum), size(k*best-sum)
		if off < least || off == least && size(v) > size(best) {
			best = v
		}
	}
	return best
}

// held holds each answer of a new mean of n against the words.
func held(t *testing.T, n int, all []int) {
	t.Helper()
	a := made(t, n)
	for i, v := range all {
		if got, want := push(t, a, v), words(n, all[:i+1]); got != want {
			t.Fatalf("of %d: %v: %d, want %d", n, all[:i+1], got, want)
		}
	}
}

// dice are numbers without an order to be seen, the same ones for the same seed.
type dice struct{ x uint64 }

func (d *dice) below(n int) int {
	d.x = d.x*6364136223846793005 + 1442695040888963407
	return int(d.x >> 33 % uint64(n))
}

// mixed is a list in another order.
func (d *dice) mixed(all []int) []int {
	out := slices.Clone(all)
	for i := len(out) - 1; i > 0; i-- {
		j := d.below(i + 1)
		out[i], out[j] = out[j], out[i]
	}
	return out
}

// some are so many numbers around 0, of so many kinds.
func (d *dice) some(many, kinds int) []int {
	var out []int
	for range many {
		out = append(out, d.below(kinds)-kinds/2)
	}
	return out
}

// summing are so many numbers with that sum.
func (d *dice) summing(many, sum int) []int {
	out := d.some(many, 2000)
	out[0] += sum - sumOf(out)
	return d.mixed(out)
}

// sizes are those that a mean may be of.
func sizes() []int { return []int{1, 2, 3, 4, 5, 6, 7, 8, 9, 10, 11, 12, 13, 14, 15} }

// edges are numbers at bounds and beyond.
func edges() []int {
	return []int{most, -most, most + 1, -most - 1, most - 1, -most + 1, math.MaxInt, math.MinInt, 0, 1, -1, 1 << 40, -1 << 40}
}

func TestP101New(t *testing.T) {
	for _, n := range sizes() {
		for _, v := range []int{-7, 0, 1, 100001} {
			if got := push(t, made(t, n), v); got != v {
				t.Errorf("of %d: the first answer to %d is %d: a new one is of no numbers", n, v, got)
			}
		}
	}
}

// So many noughts behind one number: it counts till n others are behind it, and no longer.
func TestP101NewOfHowMany(t *testing.T) {
	for _, n := range sizes() {
		a := made(t, n)
		for i := range 3 * n {
			v := 0
			if i == 0 {
				v = 360360
			}
			want := 0
			if i < n {
				want = 360360 / (i + 1)
			}
			if got := push(t, a, v); got != want {
				t.Errorf("of %d: %d noughts behind 360360: %d, want %d", n, i, got, want)
			}
		}
	}
}

func TestP101Wrong(t *testing.T) {
	for _, n := range []int{0, 16, 17, 18, 31, 100, -1, -2, -15, -16, math.MinInt, math.MinInt + 1, math.MaxInt, math.MaxInt - 1, 1<<32 + 3, 1<<8 + 1} {
		for range 2 {
			if a, e := New(n); a != nil || e != 2 {
				t.Errorf("New(%d) = %v, %d", n, a, e)
			}
		}
	}
}

func TestP102Nil(t *testing.T) {
	var none *Average
	for _, a := range []*Average{none, {}, new(Average)} {
		for range 3 {
			for _, v := range append(edges(), 5) {
				if got, e := a.Push(v); got != 0 || e != 1 {
					t.Errorf("Push(%d) of none = %d, %d", v, got, e)
				}
			}
		}
	}
}

func TestP102Examples(t *testing.T) {
	for _, c := range []struct {
		n         int
		all, want []int
	}{
		{3, []int{3, 4, 8, 9}, []int{3, 4, 5, 7}},
		{2, []int{-3, -4, 1 << 40}, []int{-3, -4, 1073741822}},
		{1, []int{4, -9}, []int{4, -9}},
		{2, []int{1, 2, 3, 5, 5}, []int{1, 2, 3, 4, 5}},
		{3, []int{1, 1, 2, 2, 1}, []int{1, 1, 1, 2, 2}},
		{3, []int{-1, -1, -2, -2, -1}, []int{-1, -1, -1, -2, -2}},
		{4, []int{0, 0, 0, 2, 0, 0, 0, 0}, []int{0, 0, 0, 1, 1, 1, 1, 0}},
		{5, []int{10, -10, 30, -30, 7, 7}, []int{10, 0, 10, 0, 1, 1}},
		{2, []int{0, -1, 0, 1, 0}, []int{0, -1, -1, 1, 1}},
	} {
		if got := pushed(t, made(t, c.n), c.all); !slices.Equal(got, c.want) {
			t.Errorf("of %d: %v: %v, want %v", c.n, c.all, got, c.want)
		}
		held(t, c.n, c.all)
	}
}

func TestP102Shapes(t *testing.T) {
	for _, n := range sizes() {
		var rising, falling, alike, squares, teeth []int
		for v := range 5*n + 3 {
			rising = append(rising, v)
			falling = append(falling, -v)
			alike = append(alike, -42)
			squares = append(squares, v*v-50)
			teeth = append(teeth, v*(1-v%2*2))
		}
		for _, all := range [][]int{rising, falling, alike, squares, teeth} {
			for _, many := range []int{1, n - 1, n, n + 1, 2 * n, 5*n + 3} {
				held(t, n, all[:many])
			}
		}
	}
}

// Sums at half of a whole one, and just beside it, on both sides of 0.
func TestP102Halves(t *testing.T) {
	d := dice{102}
	for k := 2; k <= 14; k += 2 {
		for _, whole := range []int{0, 1, 2, 7, 1000, 123456789, most/2 - 1} {
			for _, c := range []struct{ sum, want int }{
				{whole*k + k/2, whole + 1},
				{whole*k + k/2 - 1, whole},
				{whole*k + k/2 + 1, whole + 1},
			} {
				for _, n := range []int{k, k + 1, 15} {
					all := d.summing(k, c.sum)
					if c.want > 1<<20 {
						all = near(k, c.sum)
					}
					if got := final(t, n, all); got != c.want {
						t.Errorf("of %d: %v, in all %d: %d, want %d", n, all, c.sum, got, c.want)
					}
					if got := final(t, n, contrary(all)); got != -c.want {
						t.Errorf("of %d: %v, in all %d: %d, want %d", n, contrary(all), -c.sum, got, -c.want)
					}
				}
			}
		}
	}
}

// near are so many numbers with that sum that differ by 1 at most.
func near(many, sum int) []int {
	out := make([]int, many)
	for i := range out {
		out[i] = sum / many
		if i < sum%many {
			out[i]++
		}
	}
	return out
}

func contrary(all []int) []int {
	var out []int
	for _, v := range all {
		out = append(out, -v)
	}
	return out
}

func TestP102SumOfNought(t *testing.T) {
	d := dice{1020}
	for _, n := range sizes() {
		for range 30 {
			all := d.summing(n, 0)
			if got := final(t, n, append(d.some(d.below(20), 99999), all...)); got != 0 {
				t.Errorf("of %d: %v: %d", n, all, got)
			}
		}
	}
}

func TestP102Bounds(t *testing.T) {
	for _, n := range sizes() {
		for _, v := range edges() {
			alike := slices.Repeat([]int{v}, 3*n)
			for _, got := range pushed(t, made(t, n), alike) {
				if got != inBounds(v) {
					t.Errorf("of %d: Push(%d) = %d", n, v, got)
				}
			}
		}
		d := dice{uint64(n)}
		for range 50 {
			held(t, n, d.mixed(append(edges(), edges()...)))
		}
	}
}

// A number beyond a bound counts as the bound, ahead of all else, and is not brought there behind the sum.
func TestP102BoundsFirst(t *testing.T) {
	for _, c := range []struct{ all, want []int }{
		{[]int{math.MaxInt, 0, 0}, []int{most, 1073741824, 715827882}},
		{[]int{math.MinInt, 0, 0}, []int{-most, -1073741824, -715827882}},
		{[]int{math.MaxInt, math.MinInt, 3}, []int{most, 0, 1}},
		{[]int{most + 1, -most, 0}, []int{most, 0, 0}},
		{[]int{most, most, -most}, []int{most, most, 715827882}},
		{[]int{most, most - 1, most}, []int{most, most, most}},
		{[]int{-most, -most + 1, -most + 1}, []int{-most, -most, -most + 1}},
	} {
		if got := pushed(t, made(t, 3), c.all); !slices.Equal(got, c.want) {
			t.Errorf("%v: %v, want %v", c.all, got, c.want)
		}
	}
}

// Every list of so many numbers out of so few kinds, on both sides of 0.
func TestP102AllLists(t *testing.T) {
	for _, c := range []struct{ n, kinds, long int }{{1, 5, 4}, {2, 5, 5}, {3, 3, 8}, {4, 4, 6}, {8, 2, 12}} {
		many := 1
		for range c.long {
			many *= c.kinds
		}
		for x := range many {
			all := make([]int, c.long)
			for i := range all {
				all[i], x = x%c.kinds-c.kinds/2, x/c.kinds
			}
			held(t, c.n, all)
		}
	}
}

func TestP102ManyLists(t *testing.T) {
	d := dice{1021}
	for _, n := range sizes() {
		for _, kinds := range []int{2, 5, 20, 1000, 1 << 31} {
			for range 40 {
				held(t, n, d.some(4*n+d.below(n+2), kinds))
			}
		}
	}
}

func TestMeansApart(t *testing.T) {
	d := dice{7}
	a, b := made(t, 5), made(t, 5)
	var ofA, ofB []int
	for range 300 {
		v := d.below(100)
		if d.below(2) == 0 {
			ofA = append(ofA, v)
			if got, want := push(t, a, v), words(5, ofA); got != want {
				t.Fatalf("%v: %d, want %d", ofA, got, want)
			}
		} else {
			ofB = append(ofB, v)
			if got, want := push(t, b, v), words(5, ofB); got != want {
				t.Fatalf("%v: %d, want %d", ofB, got, want)
			}
		}
		if m, e := New(16); m != nil || e != 2 {
			t.Fatalf("New(16) = %v, %d", m, e)
		}
	}
}
