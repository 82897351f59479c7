package real

import (
	"math"
	"math/big"
	"testing"

	"handbell/api"
)

const bound = api.Most

// rounded is the whole number nearest to a quotient: the sign, and the floor of (2|a| + b) / 2b.
func rounded(a, b *big.Int) *big.Int {
	top := new(big.Int).Abs(a)
	top.Lsh(top, 1).Add(top, b)
	top.Quo(top, new(big.Int).Lsh(b, 1))
	return top.Mul(top, big.NewInt(int64(a.Sign())))
}

func clamped(v *big.Int) int {
	switch {
	case v.Cmp(big.NewInt(bound)) > 0:
		return bound
	case v.Cmp(big.NewInt(-bound)) < 0:
		return -bound
	}
	return int(v.Int64())
}

// thousandths is the chapter's 'a number in thousandths', over whole numbers of any size.
func thousandths(mantissa, exponent int) int {
	m, ten := big.NewInt(int64(mantissa)), big.NewInt(10)
	if exponent >= -3 {
		return clamped(m.Mul(m, ten.Exp(ten, big.NewInt(int64(exponent+3)), nil)))
	}
	return clamped(rounded(m, ten.Exp(ten, big.NewInt(int64(-exponent-3)), nil)))
}

// stepwise is the chapter's float: a mantissa of 53 bits, rounded to the nearest at each step.
func stepwise(mantissa, exponent int) float64 {
	x := new(big.Float).SetPrec(53).SetInt64(int64(mantissa))
	ten := new(big.Float).SetPrec(53).SetInt64(10)
	for ; exponent > 0; exponent-- {
		x.Mul(x, ten)
	}
	for ; exponent < 0; exponent++ {
		x.Quo(x, ten)
	}
	f, _ := x.Float64()
	return f
}

// mantissas go up: the edges, halves, what is near them.
func mantissas() []int {
	up := []int{1, 2, 3, 4, 5, 6, 7, 9, 10, 11, 14, 15, 16, 24, 25, 49, 50, 51, 99, 100, 149, 150, 366, 449, 450, 499, 500, 501, 999, 1000, 2044, 2045, 2046, 2147, 2148, 4999, 5000, 5001, 21474, 21475, 49999, 50000, 50001, 214748, 214749, 499999, 500000, 500001, 1234565, 2147483, 2147484, 4999999, 5000000, 5000001, most - 1, most}
	var out []int
	for i := len(up) - 1; i >= 0; i-- {
		out = append(out, -up[i])
	}
	return append(append(out, 0), up...)
}

func fixedOf(t *testing.T, r api.Real) int {
	t.Helper()
	v, ok := Fixed(r)
	if !ok {
		t.Errorf("Fixed(%+v) is no number", r)
	}
	return v
}

// P2.3

func TestFixedOfExamples(t *testing.T) {
	for r, want := range map[api.Real]int{
		number(366, -1): 36600, number(0, 0): 0, number(0, 127): 0, number(0, -128): 0, number(1, 0): 1000, number(-7, -3): -7,
		number(5, -4): 1, number(-5, -4): -1, number(4, -4): 0, number(-4, -4): 0, number(15, -4): 2, number(-25, -4): -3, number(14, -4): 1,
		number(50, -5): 1, number(49, -5): 0, number(-50, -5): -1, number(45, -5): 0,
		number(5000000, -10): 1, number(4999999, -10): 0, number(-5000000, -10): -1, number(most, -10): 1, number(most, -11): 0, number(most, -128): 0,
		number(2147483, 0): 2147483000, number(2147484, 0): bound, number(-2147484, 0): -bound, number(2, 6): 2000000000, number(3, 6): bound,
		number(1, 6): 1000000000, number(1, 7): bound, number(-1, 7): -bound, number(1, 127): bound, number(-1, 127): -bound, number(most, 127): bound, number(-most, 127): -bound,
	} {
		if got, ok := Fixed(r); got != want || !ok {
			t.Errorf("Fixed(%+v): %d, %v; not %d", r, got, ok, want)
		}
	}
}

func TestFixedIsTheNearestWholeNumber(t *testing.T) {
	for e := -128; e <= 127; e++ {
		for _, m := range mantissas() {
			if got, want := fixedOf(t, number(m, e)), thousandths(m, e); got != want {
				t.Errorf("Fixed(%d, %d): %d, not %d", m, e, got, want)
			}
		}
	}
}

func TestFixedOfNoNumber(t *testing.T) {
	others := wrong()
	for kind := api.RealNone; kind <= api.RealReserved; kind++ {
		others = append(others, api.Real{Kind: kind})
	}
	for _, r := range others {
		if got, ok := Fixed(r); got != 0 || ok {
			t.Errorf("Fixed(%+v): %d, %v", r, got, ok)
		}
	}
}

// P2.4

func TestFloatOfExamples(t *testing.T) {
	for r, want := range map[api.Real]float64{
		number(366, -1): 36.6, number(0, 0): 0, number(-5, 0): -5, number(5, -4): 0.0005, number(12, 3): 12000, number(0, 127): 0,
		// Rounded but once these would be 7e-20, 1e-25 and 8.388605e46.
		number(7, -20): 6.999999999999999e-20, number(1, -25): 1.0000000000000002e-25, number(most, 40): 8.388604999999999e46,
		{Kind: api.RealOver}: math.Inf(1), {Kind: api.RealUnder}: math.Inf(-1),
	} {
		if got := Float(r); got != want {
			t.Errorf("Float(%+v): %v, not %v", r, got, want)
		}
	}
}

func TestFloatIsRoundedEachTime(t *testing.T) {
	for e := -128; e <= 127; e++ {
		for _, m := range mantissas() {
			if got, want := Float(number(m, e)), stepwise(m, e); got != want {
				t.Errorf("Float(%d, %d): %v, not %v", m, e, got, want)
			}
		}
	}
}

func TestFloatOfNone(t *testing.T) {
	others := append(wrong(), api.Real{Kind: api.RealNone}, api.Real{Kind: api.RealOff}, api.Real{Kind: api.RealReserved})
	for _, r := range others {
		if got := Float(r); !math.IsNaN(got) {
			t.Errorf("Float(%+v): %v", r, got)
		}
	}
}

// P2.5

// numbers are thousandths near everything that the chapter names.
func numbers() []int {
	out := []int{0, math.MaxInt, math.MinInt, math.MaxInt - 1, math.MinInt + 1}
	for _, v := range []int{1, 5, 9, 10, 11, 100, 1000, 36600, 120000, most - 5, most - 1, most, most + 1, 1 << 23, most + 5, 9999994, 9999995, 9999999, 10000000, 83886044, 83886045, 83886049, 83886050, 83886054, 83886055, 83886060, 99999994, 99999995, 100000000, 123456785, 838860544, 838860545, 838860550, 999999999, 1000000000, 1234567890, 2147483640, 2147483645, bound - 1, bound, bound + 1, 1 << 32, 1 << 32 * 10, 1 << 40} {
		out = append(out, v, -v)
	}
	for v := 1; v <= bound; v = v*7/6 + 1 {
		out = append(out, v, -v)
	}
	return out
}

// shortened is P2.5's loop over whole numbers of any size.
func shortened(v int) api.Real {
	m, e := big.NewInt(int64(clamped(big.NewInt(int64(v))))), -3
	ten := big.NewInt(10)
	for ; m.CmpAbs(big.NewInt(8388605)) > 0; e++ {
		m = rounded(m, ten)
	}
	for ; m.Sign() != 0 && new(big.Int).Rem(m, ten).Sign() == 0; e++ {
		m.Quo(m, ten)
	}
	if m.Sign() == 0 {
		e = 0
	}
	return number(int(m.Int64()), e)
}

func TestOfExamples(t *testing.T) {
	for v, want := range map[int]api.Real{
		36600: number(366, -1), 0: number(0, 0), -5: number(-5, -3), 10: number(1, -2), -1000: number(-1, 0), 1200000: number(12, 2),
		bound: number(2147484, 0), -bound: number(-2147484, 0), bound + 1: number(2147484, 0), math.MaxInt: number(2147484, 0), math.MinInt: number(-2147484, 0),
		10000000: number(1, 4), 8388605: number(8388605, -3), 8388606: number(838861, -2), -8388605: number(-8388605, -3), -8388606: number(-838861, -2),
		9999995: number(1, 4), -9999995: number(-1, 4), 9999994: number(999999, -2), 8500005: number(850001, -2), -8500005: number(-850001, -2),
		83886054: number(8388605, -2), 83886055: number(838861, -1), 2000000000: number(2, 6),
	} {
		if got := Of(v); got != want {
			t.Errorf("Of(%d): %+v, not %+v", v, got, want)
		}
	}
}

func TestOfIsShortenedDigitByDigit(t *testing.T) {
	for _, v := range numbers() {
		if got, want := Of(v), shortened(v); got != want {
			t.Errorf("Of(%d): %+v, not %+v", v, got, want)
		}
	}
}

// P2.7

func TestFixedOfOf(t *testing.T) {
	for _, v := range numbers() {
		v = clamped(big.NewInt(int64(v)))
		got := fixedOf(t, Of(v))
		far, size := max(got-v, v-got), max(v, -v)
		if size <= most && far != 0 {
			t.Errorf("%d comes back as %d", v, got)
		}
		if 1500000*(far-1) > size {
			t.Errorf("%d comes back as %d, off by %d", v, got, far)
		}
	}
}

func TestOfMayBe(t *testing.T) {
	for _, v := range numbers() {
		r := Of(v)
		if y, e := PackLong(r); e != api.OK || Long(y) != r {
			t.Errorf("Of(%d) is %+v, which may not be", v, r)
		}
	}
}

// P2.8

func TestFixedIsNearFloat(t *testing.T) {
	for e := -128; e <= 127; e++ {
		for _, m := range mantissas() {
			r := number(m, e)
			x := 1000 * Float(r)
			if math.Abs(x) > bound {
				continue
			}
			if v := fixedOf(t, r); math.Abs(float64(v)-x) > 1 {
				t.Errorf("%+v is %d, and %v times a thousand", r, v, Float(r))
			}
		}
	}
}

func TestGreaterMantissasComeToNoLess(t *testing.T) {
	for e := -128; e <= 127; e++ {
		for i, m := range mantissas()[1:] {
			less, greater := number(mantissas()[i], e), number(m, e)
			if a, b := fixedOf(t, less), fixedOf(t, greater); a > b {
				t.Errorf("%+v is %d, %+v is %d", less, a, greater, b)
			}
			if a, b := Float(less), Float(greater); a > b {
				t.Errorf("%+v is %v, %+v is %v", less, a, greater, b)
			}
		}
	}
}

func TestSignsTurn(t *testing.T) {
	for e := -128; e <= 127; e++ {
		for _, m := range mantissas() {
			if a, b := fixedOf(t, number(m, e)), fixedOf(t, number(-m, e)); a != -b {
				t.Errorf("%d, %d is %d, its contrary %d", m, e, a, b)
			}
			if a, b := Float(number(m, e)), Float(number(-m, e)); a != -b {
				t.Errorf("%d, %d is %v, its contrary %v", m, e, a, b)
			}
		}
	}
	for _, v := range numbers() {
		v = clamped(big.NewInt(int64(v)))
		if a, b := Of(v), Of(-v); a.Mantissa != -b.Mantissa || a.Exponent != b.Exponent {
			t.Errorf("Of(%d) is %+v, of its contrary %+v", v, a, b)
		}
	}
}
