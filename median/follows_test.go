package median

import (
	"slices"
	"testing"
)

func TestP93OneOfThemInTheMiddle(t *testing.T) {
	d := dice{93}
	for _, n := range sizes() {
		for _, kinds := range []int{2, 4, 1000, 1 << 31} {
			m, all := made(t, n), d.some(6*n+5, kinds)
			for i, v := range all {
				got, last := push(t, m, v), lastOf(n, all[:i+1])
				noLess, noMore := 0, 0
				for _, w := range last {
					if w >= got {
						noLess++
					}
					if w <= got {
						noMore++
					}
				}
				if !slices.Contains(last, got) || 2*noLess < len(last) || 2*noMore < len(last) {
					t.Fatalf("of %d: %v: %d", n, last, got)
				}
			}
		}
	}
}

// Of an even number of them no more than half are no more, if they all differ: it is the lesser one.
func TestP93LesserHalf(t *testing.T) {
	for _, n := range sizes() {
		m, all := made(t, n), []int{}
		for k := 1; k < n; k++ {
			all = append(all, 1000-k*k)
			got, noMore := push(t, m, 1000-k*k), 0
			for _, w := range all {
				if w <= got {
					noMore++
				}
			}
			if noMore != (k+1)/2 {
				t.Errorf("of %d: %v: %d", n, all, got)
			}
		}
	}
}

// orders are all orders of a list.
func orders(all []int) [][]int {
	if len(all) == 0 {
		return [][]int{{}}
	}
	var out [][]int
	for i, v := range all {
		rest := slices.Delete(slices.Clone(all), i, i+1)
		for _, o := range orders(rest) {
			out = append(out, append([]int{v}, o...))
		}
	}
	return out
}

func TestP94Order(t *testing.T) {
	for _, all := range [][]int{{4}, {3, 1, 2}, {3, 3, 1}, {5, -5, 0, 9, 2}, {1, 1, 0, 0, 1}, {6, 1, 5, 2, 4, 3, 0}} {
		n := len(all)
		sorted := slices.Sorted(slices.Values(all))
		for _, o := range orders(all) {
			if got := pushed(t, made(t, n), o); got[n-1] != sorted[n/2] {
				t.Fatalf("%v: %d, want %d", o, got[n-1], sorted[n/2])
			}
		}
	}
}

func TestP94WhatCameAhead(t *testing.T) {
	d := dice{94}
	for _, n := range sizes() {
		for range 60 {
			last := d.some(n, 50)
			want := pushed(t, made(t, n), last)[n-1]
			ahead := d.some(d.below(3*n), 1<<31)
			for range 4 {
				got := pushed(t, made(t, n), append(slices.Clone(ahead), d.mixed(last)...))
				if got[len(got)-1] != want {
					t.Fatalf("of %d: %v behind %v: %d, want %d", n, last, ahead, got[len(got)-1], want)
				}
			}
		}
	}
}

func TestP95OfOne(t *testing.T) {
	d := dice{95}
	m := made(t, 1)
	for _, v := range append(edges(), d.some(500, 1<<31)...) {
		if got := push(t, m, v); got != inBounds(v) {
			t.Errorf("Push(%d) = %d", v, got)
		}
	}
}

func TestP95OneAmongOthers(t *testing.T) {
	for _, n := range sizes()[1:] {
		for _, odd := range append(edges(), 6, 8) {
			m := made(t, n)
			for i := range 4*n + 2 {
				v := 7
				if i%(n+1) == n {
					v = odd
				}
				if got := push(t, m, v); got != 7 {
					t.Fatalf("of %d: %d among others is seen: %d", n, v, got)
				}
			}
		}
	}
}

// Wherever it stands among them, it is not seen from the third number on: two alone have no middle but the lesser one.
func TestP95WhereverItStands(t *testing.T) {
	for _, n := range sizes()[1:] {
		for place := range n + 1 {
			for _, odd := range []int{-1000, 1000} {
				all := make([]int, n+1)
				all[place] = odd
				for i, got := range pushed(t, made(t, n), all) {
					if i >= 2 && got != 0 {
						t.Fatalf("of %d: %v: %d is seen at %d", n, all, odd, i)
					}
				}
			}
		}
	}
}
