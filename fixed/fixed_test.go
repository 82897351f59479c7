package fixed

import (
	"math"
	"math/big"
	"testing"

	"handbell/api"
)

const most = api.Most

// edges are numbers near everything that the chapter names: 0, halves of a thousandth, one, the bounds, what lies beyond them.
func edges() []int {
	var out []int
	for _, v := range []int{0, 1, 2, 3, 5, 7, 10, 100, 333, 499, 500, 501, 999, 1000, 1001, 1500, 2000, 2001, 3000, 36600, 46340, 46341, 1 << 20, 1 << 30, most/1000 - 1, most / 1000, most/1000 + 1, most / 2, most/2 + 1, most - 1, most, most + 1, 1 << 32, 1 << 40, 1 << 62, math.MaxInt} {
		out = append(out, v, -v)
	}
	return append(out, math.MinInt, math.MinInt+1)
}

// within is edges without those that lie beyond the bounds.
func within() []int {
	var out []int
	for _, v := range edges() {
		if -most <= v && v <= most {
			out = append(out, v)
		}
	}
	return out
}

// bounded is the chapter's 'brought into bounds' over whole numbers of any size.
func bounded(v *big.Int) *big.Int {
	if v.Cmp(big.NewInt(most)) > 0 {
		return big.NewInt(most)
	}
	if v.Cmp(big.NewInt(-most)) < 0 {
		return big.NewInt(-most)
	}
	return v
}

func whole(v int) *big.Int { return bounded(big.NewInt(int64(v))) }

// over is 'a over b, rounded': the sign, and the floor of (2|a| + |b|) / 2|b|.
func over(a, b *big.Int) int {
	sign := a.Sign() * b.Sign()
	top := new(big.Int).Abs(a)
	top.Lsh(top, 1).Add(top, new(big.Int).Abs(b))
	below := new(big.Int).Abs(b)
	below.Lsh(below, 1)
	q := top.Quo(top, below)
	return int(bounded(q.Mul(q, big.NewInt(int64(sign)))).Int64())
}

func times(a, b *big.Int) *big.Int { return new(big.Int).Mul(a, b) }

func isNumber(t *testing.T, what string, got, want int) {
	t.Helper()
	if got != want {
		t.Errorf("%s: %d, not %d", what, got, want)
	}
}

func isAnswer(t *testing.T, what string, got int, e api.Errno, want int, wantErr api.Errno) {
	t.Helper()
	if got != want || e != wantErr {
		t.Errorf("%s: %d, error %d; not %d, error %d", what, got, e, want, wantErr)
	}
}

func div(t *testing.T, a, b int) int {
	t.Helper()
	q, e := Div(a, b)
	if e != api.OK {
		t.Errorf("Div(%d, %d): error %d", a, b, e)
	}
	return q
}

func scale(t *testing.T, v, num, den int) int {
	t.Helper()
	q, e := Scale(v, num, den)
	if e != api.OK {
		t.Errorf("Scale(%d, %d, %d): error %d", v, num, den, e)
	}
	return q
}

// P1.1

func TestClampBringsIntoBounds(t *testing.T) {
	for v, want := range map[int]int{0: 0, 1: 1, -1: -1, most - 1: most - 1, most: most, most + 1: most, -most: -most, -most - 1: -most, -most + 1: -most + 1, -1 << 40: -most, 1 << 40: most, math.MaxInt: most, math.MinInt: -most} {
		isNumber(t, "Clamp", Clamp(v), want)
	}
}

func TestSumsAndDifferences(t *testing.T) {
	for _, c := range []struct{ a, b, sum, difference int }{
		{2, 3, 5, -1},
		{-7, 4, -3, -11},
		{36600, 400, 37000, 36200},
		{most, 1, most, most - 1},
		{-most, 1, -most + 1, -most},
		{-1 << 31, 5, -most + 5, -most},
		{most, -most, 0, most},
		{-most, most, 0, -most},
		{math.MaxInt, math.MaxInt, most, 0},
		{math.MinInt, math.MinInt, -most, 0},
		{math.MaxInt, math.MinInt, 0, most},
		{math.MaxInt, -1, most - 1, most},
		{math.MinInt, 1, -most + 1, -most},
	} {
		isNumber(t, "Add", Add(c.a, c.b), c.sum)
		isNumber(t, "Sub", Sub(c.a, c.b), c.difference)
	}
}

func TestProducts(t *testing.T) {
	for _, c := range []struct{ a, b, want int }{
		{2000, 3000, 6000},
		{-2000, 3000, -6000},
		{-2000, -3000, 6000},
		{1500, 2, 3},
		{500, 1, 1},
		{-500, 1, -1},
		{500, -1, -1},
		{-500, -1, 1},
		{499, 1, 0},
		{-499, 1, 0},
		{501, 1, 1},
		{1500, 1, 2},
		{-1500, 1, -2},
		{2500, 1, 3},
		{1499, 1, 1},
		{0, most, 0},
		{most, 999, 2145336163},
		{most, 1001, most},
		{most, most, most},
		{most, -most, -most},
		{math.MaxInt, math.MaxInt, most},
		{math.MinInt, math.MinInt, most},
		{math.MinInt, math.MaxInt, -most},
		{math.MinInt, 1, -2147484},
	} {
		isNumber(t, "Mul", Mul(c.a, c.b), c.want)
	}
}

func TestQuotients(t *testing.T) {
	for _, c := range []struct {
		a, b, want int
		e          api.Errno
	}{
		{1000, 3000, 333, api.OK},
		{6000, 2000, 3000, api.OK},
		{2, 3, 667, api.OK},
		{-2, 3, -667, api.OK},
		{1, 2000, 1, api.OK},
		{-1, 2000, -1, api.OK},
		{1, -2000, -1, api.OK},
		{-1, -2000, 1, api.OK},
		{3, 2000, 2, api.OK},
		{1, 2001, 0, api.OK},
		{-1, 2001, 0, api.OK},
		{1, 1999, 1, api.OK},
		{0, 5, 0, api.OK},
		{most, 1, most, api.OK},
		{most, -1, -most, api.OK},
		{most, 999, most, api.OK},
		{math.MaxInt, math.MaxInt, 1000, api.OK},
		{math.MinInt, math.MaxInt, -1000, api.OK},
		{1000, math.MinInt, 0, api.OK},
		{5, 0, 0, api.ErrRange},
		{0, 0, 0, api.ErrRange},
		{math.MinInt, 0, 0, api.ErrRange},
	} {
		got, e := Div(c.a, c.b)
		isAnswer(t, "Div", got, e, c.want, c.e)
	}
}

func TestScales(t *testing.T) {
	for _, c := range []struct {
		v, num, den, want int
		e                 api.Errno
	}{
		{7, 1, 2, 4, api.OK},
		{-7, 1, 2, -4, api.OK},
		{7, -1, 2, -4, api.OK},
		{7, 1, -2, -4, api.OK},
		{3, -1, -2, 2, api.OK},
		{7, 1, 3, 2, api.OK},
		{8, 1, 3, 3, api.OK},
		{0, 5, 3, 0, api.OK},
		{5, 0, 3, 0, api.OK},
		{most, most, most, most, api.OK},
		{most, most, 1, most, api.OK},
		{most, -most, 1, -most, api.OK},
		{most, 1, 2, 1 << 30, api.OK},
		{math.MaxInt, math.MaxInt, math.MinInt, -most, api.OK},
		{math.MinInt, 1, math.MinInt, 1, api.OK},
		{1, 1, 0, 0, api.ErrRange},
		{0, 0, 0, 0, api.ErrRange},
		{math.MaxInt, math.MinInt, 0, 0, api.ErrRange},
	} {
		got, e := Scale(c.v, c.num, c.den)
		isAnswer(t, "Scale", got, e, c.want, c.e)
	}
}

func TestReckonsAsWholeNumbersOfAnySize(t *testing.T) {
	thousand := big.NewInt(1000)
	for _, a := range edges() {
		isNumber(t, "Clamp", Clamp(a), int(whole(a).Int64()))
		for _, b := range edges() {
			x, y := whole(a), whole(b)
			isNumber(t, "Add", Add(a, b), int(bounded(new(big.Int).Add(x, y)).Int64()))
			isNumber(t, "Sub", Sub(a, b), int(bounded(new(big.Int).Sub(x, y)).Int64()))
			isNumber(t, "Mul", Mul(a, b), over(times(x, y), thousand))
			if b == 0 {
				continue
			}
			isNumber(t, "Div", div(t, a, b), over(times(x, thousand), y))
			for _, num := range edges() {
				isNumber(t, "Scale", scale(t, a, num, b), over(times(x, whole(num)), y))
			}
		}
	}
}

// P1.4

func TestOrderDoesNotMatter(t *testing.T) {
	for _, a := range edges() {
		for _, b := range edges() {
			isNumber(t, "Add, the other way round", Add(b, a), Add(a, b))
			isNumber(t, "Mul, the other way round", Mul(b, a), Mul(a, b))
			isNumber(t, "Sub", Sub(a, b), Add(a, -Clamp(b)))
		}
	}
}

func TestWhatChangesNothing(t *testing.T) {
	for _, v := range edges() {
		isNumber(t, "times one", Mul(v, 1000), Clamp(v))
		isNumber(t, "over one", div(t, v, 1000), Clamp(v))
		isNumber(t, "plus 0", Add(v, 0), Clamp(v))
		for _, n := range edges() {
			if n != 0 {
				isNumber(t, "scaled by a number over itself", scale(t, v, n, n), Clamp(v))
			}
		}
	}
}

func TestSignsTurn(t *testing.T) {
	for _, a := range edges() {
		for _, b := range edges() {
			isNumber(t, "Mul of the contrary", Mul(-Clamp(a), b), -Mul(a, b))
			if b == 0 {
				continue
			}
			isNumber(t, "Div of the contrary", div(t, -Clamp(a), b), -div(t, a, b))
			isNumber(t, "Scale of the contrary", scale(t, -Clamp(a), 7, b), -scale(t, a, 7, b))
		}
	}
}

// P1.5

func TestRoundingIsNear(t *testing.T) {
	for _, a := range within() {
		for _, b := range within() {
			p := Mul(a, b)
			if p == most || p == -most {
				continue
			}
			if far := 2 * (1000*p - a*b); far > 1000 || far < -1000 {
				t.Errorf("Mul(%d, %d) is %d: off by %d half thousandths", a, b, p, far)
			}
		}
	}
}

func TestGreaterComesToNoLess(t *testing.T) {
	for _, a := range edges() {
		for _, b := range edges() {
			if a > b {
				continue
			}
			noLess(t, "Clamp", Clamp(a), Clamp(b))
			for _, c := range edges() {
				noLess(t, "Add", Add(a, c), Add(b, c))
				if c >= 0 {
					noLess(t, "Mul", Mul(a, c), Mul(b, c))
				}
				if c > 0 {
					noLess(t, "Div", div(t, a, c), div(t, b, c))
					noLess(t, "Scale", scale(t, a, 3, c), scale(t, b, 3, c))
					noLess(t, "Scale", scale(t, a, c, 7), scale(t, b, c, 7))
				}
			}
		}
	}
}

func noLess(t *testing.T, what string, ofLess, ofGreater int) {
	t.Helper()
	if ofLess > ofGreater {
		t.Errorf("%s: %d of what is less, %d of what is greater", what, ofLess, ofGreater)
	}
}
