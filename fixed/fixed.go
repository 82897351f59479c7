// Package fixed is layer 1: see shared/doc/01-fixed.md.
package fixed

import "handbell/api"

// one is 1 in thousandths.
const one = 1000

// Clamp is a number brought into bounds; the others are sums, differences, products, quotients of thousandths, rounded, brought into bounds.
func Clamp(v int) int {
	return min(max(v, -api.Most), api.Most)
}

func Add(a, b int) int {
	return Clamp(Clamp(a) + Clamp(b))
}

func Sub(a, b int) int {
	return Clamp(Clamp(a) - Clamp(b))
}

func Mul(a, b int) int {
	return Clamp(rounded(Clamp(a)*Clamp(b), one))
}

func Div(a, b int) (int, api.Errno) {
	return Scale(one, a, b)
}

func Scale(v, num, den int) (int, api.Errno) {
	if den == 0 {
		return 0, api.ErrRange
	}
	return Clamp(rounded(Clamp(v)*Clamp(num), Clamp(den))), api.OK
}

// rounded is a over b. Products of two numbers within bounds are below 2^62 either way, so that nothing here wraps round: a remainder, doubled, is below 2^32.
func rounded(a, b int) int {
	quotient, rest := a/b, a%b
	if 2*size(rest) < size(b) {
		return quotient
	}
	// Go cuts quotients towards 0, which may leave a 0 that has no sign: what is farther from 0 hangs on the signs of a and b.
	if (a < 0) != (b < 0) {
		return quotient - 1
	}
	return quotient + 1
}

func size(v int) int {
	return max(v, -v)
}
