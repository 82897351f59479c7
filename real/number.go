package real

import (
	"handbell/api"
	"handbell/fixed"
)

// thousandth is the exponent of a number in thousandths.
const thousandth = -3

// Fixed is one in thousandths; Float as a float64; Of is the one that thousandths are.
func Fixed(r api.Real) (int, bool) {
	if !isNumber(r) {
		return 0, false
	}
	num, den := power(r.Exponent-thousandth), power(thousandth-r.Exponent)
	// Scale refuses a divisor of 0 alone, and a power is none.
	v, _ := fixed.Scale(r.Mantissa, num, den)
	return v, true
}

// power is 10 to the power of n, or 1 if n is below 0. It stops at 10^10, which is beyond all bounds: every mantissa but 0 comes to the bound by it, and every one to 0 if it is divided by it.
func power(n int) int {
	p := 1
	for range min(n, 10) {
		p *= 10
	}
	return p
}

func Float(r api.Real) float64 {
	if !isNumber(r) {
		return noNumber(r)
	}
	x := float64(r.Mantissa)
	for range r.Exponent {
		x *= 10
	}
	for range -r.Exponent {
		x /= 10
	}
	return x
}

// noNumber divides by 0, which floats, unlike whole numbers, have an answer to.
func noNumber(r api.Real) float64 {
	zero := 0.0
	switch {
	case !mayBe(r):
		return zero / zero
	case r.Kind == api.RealOver:
		return 1 / zero
	case r.Kind == api.RealUnder:
		return -1 / zero
	}
	return zero / zero
}

func Of(v int) api.Real {
	r := api.Real{Mantissa: fixed.Clamp(v), Exponent: thousandth}
	if r.Mantissa == 0 {
		return api.Real{}
	}
	for !isNumber(r) {
		r = tenth(r)
	}
	for r.Mantissa%10 == 0 {
		r = tenth(r)
	}
	return r
}

// tenth is a number with one digit less; its mantissa may still be too great.
func tenth(r api.Real) api.Real {
	mantissa, _ := fixed.Scale(r.Mantissa, 1, 10)
	return api.Real{Mantissa: mantissa, Exponent: r.Exponent + 1}
}
