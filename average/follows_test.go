package average

import (
	"slices"
	"testing"
)

func TestP103Between(t *testing.T) {
	d := dice{103}
	for _, n := range sizes() {
		for _, kinds := range []int{2, 3, 40, 1 << 31} {
			a, all := made(t, n), d.mixed(append(d.some(6*n, kinds), edges()...))
			for i, v := range all {
				got, last := push(t, a, v), lastOf(n, all[:i+1])
				if got < slices.Min(last) || got > slices.Max(last) {
					t.Fatalf("of %d: %v: %d", n, last, got)
				}
			}
		}
	}
}

func TestP103NearTheSum(t *testing.T) {
	d := dice{1030}
	for _, n := range sizes() {
		for _, kinds := range []int{2, 3, 40, 1 << 31} {
			a, all := made(t, n), d.mixed(append(d.some(6*n, kinds), edges()...))
			for i, v := range all {
				got, last := push(t, a, v), lastOf(n, all[:i+1])
				if k := len(last); 2*size(k*got-sumOf(last)) > k {
					t.Fatalf("of %d: %v: %d", n, last, got)
				}
			}
		}
	}
}

// orders are all orders of a list.
func orders(all []int) [][]int {
	if len(all) == 0 {
		return [][]int{{}}
	}
	var out [][]int
	for i, v := range all {
		rest := slices.Delete(slices.Clone(all), i, i+1)
		for _, o := range orders(rest) {
			out = append(out, append([]int{v}, o...))
		}
	}
	return out
}

func TestP104Order(t *testing.T) {
	for _, c := range []struct {
		all  []int
		want int
	}{
		{[]int{4}, 4},
		{[]int{7, -10}, -2},
		{[]int{3, 1, 3}, 2},
		{[]int{5, -5, 0, 10}, 3},
		{[]int{-1, most, -most, -4, 0}, -1},
		{[]int{6, 1, 5, 2, 4, 3, 0}, 3},
	} {
		for _, o := range orders(c.all) {
			if got := final(t, len(o), o); got != c.want {
				t.Fatalf("%v: %d, want %d", o, got, c.want)
			}
		}
	}
}

func TestP104WhatCameAhead(t *testing.T) {
	d := dice{104}
	for _, n := range sizes() {
		for range 60 {
			last := d.some(n, 50)
			want := final(t, n, last)
			ahead := d.some(d.below(3*n), 1<<31)
			for range 4 {
				if got := final(t, n, append(slices.Clone(ahead), d.mixed(last)...)); got != want {
					t.Fatalf("of %d: %v behind %v: %d, want %d", n, last, ahead, got, want)
				}
			}
		}
	}
}

func TestP104Contrary(t *testing.T) {
	d := dice{1040}
	for _, n := range sizes() {
		for _, kinds := range []int{2, 7, 1000, 1 << 31} {
			for range 20 {
				all := d.some(3*n, kinds)
				got, other := pushed(t, made(t, n), all), pushed(t, made(t, n), contrary(all))
				if !slices.Equal(contrary(got), other) {
					t.Fatalf("of %d: %v: %v, of the contrary %v", n, all, got, other)
				}
			}
		}
	}
}

// isHalf tells whether a sum of k numbers, over k, is half of a whole one.
func isHalf(sum, k int) bool {
	return 2*sum%k == 0 && sum%k != 0
}

func TestP104Added(t *testing.T) {
	d, seen := dice{1041}, 0
	for _, n := range sizes() {
		for _, more := range []int{1, -1, 2, -3, 17, -500, 1000000, 1 << 30, -1 << 30} {
			for range 10 {
				all := d.some(3*n, 1000)
				var moved []int
				for _, v := range all {
					moved = append(moved, v+more)
				}
				got, other := pushed(t, made(t, n), all), pushed(t, made(t, n), moved)
				for i := range all {
					last := lastOf(n, all[:i+1])
					if isHalf(sumOf(last), len(last)) {
						continue
					}
					seen++
					if other[i] != got[i]+more {
						t.Fatalf("of %d: %v: %d, with %d added to each %d", n, last, got[i], more, other[i])
					}
				}
			}
		}
	}
	if seen < 10000 {
		t.Errorf("only %d answers were held against each other", seen)
	}
}

// At the bounds, as long as none leaves them.
func TestP104AddedUpToTheBounds(t *testing.T) {
	for _, n := range sizes() {
		for _, c := range []struct{ from, more int }{{0, most - 9}, {-most, 2*most - 9}, {most - 9, -2*most + 9}} {
			a, b := made(t, n), made(t, n)
			var all []int
			for i := range 3 * n {
				v := c.from + i*i%10
				all = append(all, v)
				got, other, last := push(t, a, v), push(t, b, v+c.more), lastOf(n, all)
				if !isHalf(sumOf(last), len(last)) && other != got+c.more {
					t.Fatalf("of %d: %v: %d, with %d added to each %d", n, last, got, c.more, other)
				}
			}
		}
	}
}

func TestP105OfOne(t *testing.T) {
	d := dice{105}
	a := made(t, 1)
	for _, v := range append(edges(), d.some(500, 1<<31)...) {
		if got := push(t, a, v); got != inBounds(v) {
			t.Errorf("Push(%d) = %d", v, got)
		}
	}
}
