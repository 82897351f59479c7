package median

import (
	"math"
	"slices"
	"testing"
)

const most = 1<<31 - 1

// made is a median of n.
func made(t *testing.T, n int) *Median {
	t.Helper()
	m, e := New(n)
	if m == nil || e != 0 {
		t.Fatalf("New(%d) = %v, %d", n, m, e)
	}
	return m
}

// push is what a median answers to a number.
func push(t *testing.T, m *Median, v int) int {
	t.Helper()
	got, e := m.Push(v)
	if e != 0 {
		t.Fatalf("Push(%d) = %d, %d", v, got, e)
	}
	return got
}

// pushed are the answers to a list of numbers.
func pushed(t *testing.T, m *Median, all []int) []int {
	t.Helper()
	var out []int
	for _, v := range all {
		out = append(out, push(t, m, v))
	}
	return out
}

// inBounds is a number brought into bounds, said again.
func inBounds(v int) int {
	if v > most {
		return most
	}
	if v < -most {
		return -most
	}
	return v
}

// lastOf are the last n of all numbers, or all, as long as there are fewer, brought into bounds.
func lastOf(n int, all []int) []int {
	var out []int
	for i, v := range all {
		if i >= len(all)-n {
			out = append(out, inBounds(v))
		}
	}
	return out
}

// words is the section 'Words' said again, over all numbers there ever were: the one that so many others go ahead of in the order, found by counting.
func words(n int, all []int) int {
	last := lastOf(n, all)
	place := (len(last) - 1) / 2
	for _, v := range last {
		less, alike := 0, 0
		for _, w := range last {
			if w < v {
				less++
			}
			if w == v {
				alike++
			}
		}
		if less <= place && place < less+alike {
			return v
		}
	}
	return math.MinInt
}

// held holds each answer of a new median of n against the words.
func held(t *testing.T, n int, all []int) {
	t.Helper()
	m := made(t, n)
	for i, v := range all {
		if got, want := push(t, m, v), words(n, all[:i+1]); got != want {
			t.Fatalf("of %d: %v: %d, want %d", n, all[:i+1], got, want)
		}
	}
}

// dice are numbers without an order to be seen, the same ones for the same seed.
type dice struct{ x uint64 }

func (d *dice) below(n int) int {
	d.x = d.x*6364136223846793005 + 1442695040888963407
	return int(d.x >> 33 % uint64(n))
}

// mixed is a list in another order.
func (d *dice) mixed(all []int) []int {
	out := slices.Clone(all)
	for i := len(out) - 1; i > 0; i-- {
		j := d.below(i + 1)
		out[i], out[j] = out[j], out[i]
	}
	return out
}

// some are so many numbers around 0, of so many kinds.
func (d *dice) some(many, kinds int) []int {
	var out []int
	for range many {
		out = append(out, d.below(kinds)-kinds/2)
	}
	return out
}

// sizes are those that a median may be of.
func sizes() []int { return []int{1, 3, 5, 7, 9, 11, 13, 15} }

// edges are numbers at bounds and beyond.
func edges() []int {
	return []int{most, -most, most + 1, -most - 1, most - 1, -most + 1, math.MaxInt, math.MinInt, 0, 1, -1, 1 << 40, -1 << 40}
}

func TestP91New(t *testing.T) {
	for _, n := range sizes() {
		held(t, n, []int{8, -3})
		m := made(t, n)
		if got := push(t, m, -7); got != -7 {
			t.Errorf("of %d: the first answer is %d: a new one is of no numbers", n, got)
		}
	}
}

func TestP91NewOfHowMany(t *testing.T) {
	rising := []int{}
	for v := range 40 {
		rising = append(rising, v)
	}
	for _, n := range sizes() {
		got := pushed(t, made(t, n), rising)
		if last := got[len(got)-1]; last != 39-n/2 {
			t.Errorf("of %d: %d, want %d", n, last, 39-n/2)
		}
	}
}

func TestP91Wrong(t *testing.T) {
	wrong := []int{0, 17, 18, 19, 31, -1, -2, -3, -15, math.MinInt, math.MinInt + 1, math.MaxInt, math.MaxInt - 1, 1<<32 + 3, 1<<8 + 1}
	for n := 2; n <= 16; n += 2 {
		wrong = append(wrong, n, -n)
	}
	for _, n := range wrong {
		if m, e := New(n); m != nil || e != 2 {
			t.Errorf("New(%d) = %v, %d", n, m, e)
		}
	}
}

func TestP92Nil(t *testing.T) {
	var none *Median
	for _, m := range []*Median{none, {}, new(Median)} {
		for range 3 {
			for _, v := range append(edges(), 5) {
				if got, e := m.Push(v); got != 0 || e != 1 {
					t.Errorf("Push(%d) of none = %d, %d", v, got, e)
				}
			}
		}
	}
}

func TestP92Examples(t *testing.T) {
	for _, c := range []struct {
		n         int
		all, want []int
	}{
		{3, []int{5, 9, 1, 7, 1 << 40}, []int{5, 5, 5, 7, 7}},
		{1, []int{4, -9}, []int{4, -9}},
		{3, []int{1, 2, 3, 4}, []int{1, 1, 2, 3}},
		{3, []int{4, 3, 2, 1}, []int{4, 3, 3, 2}},
		{5, []int{10, 20, 30, 40, 50, 0}, []int{10, 10, 20, 20, 30, 30}},
		{7, []int{7, 1, 6, 2, 5, 3, 4, 9, 9}, []int{7, 1, 6, 2, 5, 3, 4, 4, 5}},
		{3, []int{0, 0, 0}, []int{0, 0, 0}},
		{3, []int{-5, 5, 0, -5}, []int{-5, -5, 0, 0}},
	} {
		if got := pushed(t, made(t, c.n), c.all); !slices.Equal(got, c.want) {
			t.Errorf("of %d: %v: %v, want %v", c.n, c.all, got, c.want)
		}
		held(t, c.n, c.all)
	}
}

// While there are fewer than n, of an even number of them it is the lesser one of the two in the middle.
func TestP92Even(t *testing.T) {
	for _, n := range sizes() {
		for k := 2; k < n; k += 2 {
			all := []int{}
			for v := range k {
				all = append(all, 10*v)
			}
			d := dice{uint64(n*100 + k)}
			for range 20 {
				got := pushed(t, made(t, n), d.mixed(all))
				if got[k-1] != 10*(k/2-1) {
					t.Errorf("of %d: %v: %d, want %d", n, all, got[k-1], 10*(k/2-1))
				}
			}
		}
	}
}

func TestP92Shapes(t *testing.T) {
	for _, n := range sizes() {
		var rising, falling, alike, pairs, teeth []int
		for v := range 5*n + 3 {
			rising = append(rising, v)
			falling = append(falling, -v)
			alike = append(alike, 42)
			pairs = append(pairs, v/2)
			teeth = append(teeth, v*(1-v%2*2))
		}
		for _, all := range [][]int{rising, falling, alike, pairs, teeth} {
			for _, many := range []int{1, n - 1, n, n + 1, 2 * n, 5*n + 3} {
				held(t, n, all[:many])
			}
		}
	}
}

func TestP92Bounds(t *testing.T) {
	for _, n := range sizes() {
		for _, v := range edges() {
			if got := push(t, made(t, n), v); got != inBounds(v) {
				t.Errorf("of %d: Push(%d) = %d", n, v, got)
			}
		}
		d := dice{uint64(n)}
		for range 50 {
			held(t, n, d.mixed(append(edges(), edges()...)))
		}
	}
}

// A number beyond a bound is the bound, and so alike with it, not beyond it.
func TestP92BoundsFirst(t *testing.T) {
	for _, c := range []struct{ all, want []int }{
		{[]int{math.MaxInt, most, most}, []int{most, most, most}},
		{[]int{math.MinInt, -most, -most}, []int{-most, -most, -most}},
		{[]int{math.MinInt, -most - 1, 0}, []int{-most, -most, -most}},
		{[]int{math.MaxInt, most + 1, 0}, []int{most, most, most}},
	} {
		if got := pushed(t, made(t, 3), c.all); !slices.Equal(got, c.want) {
			t.Errorf("%v: %v, want %v", c.all, got, c.want)
		}
	}
}

// Every list of so many numbers out of so few kinds.
func TestP92AllLists(t *testing.T) {
	for _, c := range []struct{ n, kinds, long int }{{1, 3, 5}, {3, 3, 8}, {3, 5, 5}, {5, 3, 8}, {7, 2, 11}} {
		many := 1
		for range c.long {
			many *= c.kinds
		}
		for x := range many {
			all := make([]int, c.long)
			for i := range all {
				all[i], x = x%c.kinds, x/c.kinds
			}
			held(t, c.n, all)
		}
	}
}

func TestP92ManyLists(t *testing.T) {
	d := dice{92}
	for _, n := range sizes() {
		for _, kinds := range []int{2, 5, 20, 1 << 31} {
			for range 40 {
				held(t, n, d.some(4*n+d.below(n+2), kinds))
			}
		}
	}
}

func TestMediansApart(t *testing.T) {
	d := dice{7}
	a, b := made(t, 5), made(t, 5)
	var ofA, ofB []int
	for range 300 {
		v := d.below(100)
		if d.below(2) == 0 {
			ofA = append(ofA, v)
			if got, want := push(t, a, v), words(5, ofA); got != want {
				t.Fatalf("%v: %d, want %d", ofA, got, want)
			}
		} else {
			ofB = append(ofB, v)
			if got, want := push(t, b, v), words(5, ofB); got != want {
				t.Fatalf("%v: %d, want %d", ofB, got, want)
			}
		}
		if m, e := New(4); m != nil || e != 2 {
			t.Fatalf("New(4) = %v, %d", m, e)
		}
	}
}
