package iir

import (
	"math"
	"slices"
	"testing"
)

// lists are some of numbers of all kinds, with those at the bounds and beyond among them.
func lists(d *dice) [][]int {
	var out [][]int
	for _, n := range kinds() {
		for range 8 {
			out = append(out, d.some(60, n), d.mixed(append(d.some(30, n), edges()...)))
		}
	}
	return out
}

func TestP113Between(t *testing.T) {
	d := dice{113}
	for _, part := range parts() {
		for _, all := range lists(&d) {
			got := pushed(t, part, all)
			for i := 1; i < len(all); i++ {
				was, v := got[i-1], inBounds(all[i])
				if got[i] < min(was, v) || got[i] > max(was, v) {
					t.Fatalf("a part of %d: from %d by %d to %d", part, was, v, got[i])
				}
			}
		}
	}
}

func TestP113Stays(t *testing.T) {
	d := dice{1130}
	stayed, left := 0, 0
	for _, part := range parts() {
		for _, all := range lists(&d) {
			got := pushed(t, part, all)
			for i := 1; i < len(all); i++ {
				was, v := got[i-1], inBounds(all[i])
				stays := size(part*(v-was)) < 500
				if (got[i] == was) != stays {
					t.Fatalf("a part of %d: from %d by %d to %d", part, was, v, got[i])
				}
				if stays {
					stayed++
				} else {
					left++
				}
			}
		}
	}
	if stayed < 1000 || left < 1000 {
		t.Errorf("only %d stayed, %d went", stayed, left)
	}
}

// Of each part the greatest difference at which it stays, and the least at which it goes.
func TestP113StaysUpToWhere(t *testing.T) {
	for part := 1; part <= 1000; part++ {
		far := 499 / part
		for _, from := range places() {
			moved(t, part, from, far, 0)
			moved(t, part, from, -far, 0)
			moved(t, part, from, far+1, 1)
			moved(t, part, from, -far-1, -1)
		}
	}
}

func TestP114WholePart(t *testing.T) {
	d := dice{114}
	s := made(t, 1000)
	for _, all := range lists(&d) {
		for _, v := range all {
			if got := push(t, s, v); got != inBounds(v) {
				t.Fatalf("Push(%d) = %d", v, got)
			}
		}
	}
}

// together tells how far apart two of one part are that began at two places, ahead of the same numbers and behind each of them.
func together(t *testing.T, part, a, b int, all []int) []int {
	t.Helper()
	one, other := pushed(t, part, append([]int{a}, all...)), pushed(t, part, append([]int{b}, all...))
	var out []int
	for i := range one {
		out = append(out, size(one[i]-other[i]))
	}
	return out
}

// notApart holds that two never come farther apart than by 1: neither at one number, nor of where they began.
func notApart(t *testing.T, part, a, b int, all []int) {
	t.Helper()
	far := together(t, part, a, b, all)
	for i := 1; i < len(far); i++ {
		if far[i] > far[i-1]+1 || far[i] > far[0]+1 {
			t.Fatalf("a part of %d: from %d and %d by %v: apart by %v", part, a, b, all[:i], far[:i+1])
		}
	}
}

func TestP114NotApart(t *testing.T) {
	d := dice{1140}
	for _, part := range parts() {
		for _, all := range lists(&d) {
			for _, a := range places() {
				notApart(t, part, a, d.below(1<<31)-1<<30, all)
				notApart(t, part, a, a+d.below(5)-2, all)
			}
		}
	}
}

// All places that are near one another, and all numbers that are near them.
func TestP114NotApartNearBy(t *testing.T) {
	for _, part := range []int{1, 333, 499, 500, 501, 999, 1000} {
		for a := -6; a <= 6; a++ {
			for b := -6; b <= 6; b++ {
				for v := -8; v <= 8; v++ {
					notApart(t, part, a, b, []int{v, v, -v, v + 1})
				}
			}
		}
	}
}

func TestP114NotApartFromTheBounds(t *testing.T) {
	d := dice{1141}
	for _, part := range parts() {
		for range 50 {
			notApart(t, part, most, -most, d.mixed(append(edges(), d.some(20, 1<<31)...)))
		}
	}
}

// From one place on they stay together.
func TestP114Together(t *testing.T) {
	d := dice{1142}
	for _, part := range parts() {
		for _, all := range lists(&d) {
			if far := together(t, part, 77, 77, all); slices.Max(far) != 0 {
				t.Fatalf("a part of %d: from 77 by %v: apart by %v", part, all, far)
			}
		}
	}
}

func TestP115Contrary(t *testing.T) {
	d := dice{115}
	for _, part := range parts() {
		for _, all := range lists(&d) {
			// The smallest int has no contrary.
			all = slices.DeleteFunc(all, func(v int) bool { return v == math.MinInt })
			got, other := pushed(t, part, all), pushed(t, part, contrary(all))
			if !slices.Equal(contrary(got), other) {
				t.Fatalf("a part of %d: %v: %v, of the contrary %v", part, all, got, other)
			}
		}
	}
}

// Halves of whole ones turn, too.
func TestP115ContraryHalves(t *testing.T) {
	for _, part := range []int{1, 4, 20, 100, 500} {
		difference := 500 / part
		for k := 1; k < 40; k += 2 {
			up, down := pushed(t, part, []int{0, k * difference}), pushed(t, part, []int{0, -k * difference})
			if up[1] != (k+1)/2 || down[1] != -(k+1)/2 {
				t.Errorf("a part of %d: by %d: %d, by the contrary %d", part, k*difference, up[1], down[1])
			}
		}
	}
}
