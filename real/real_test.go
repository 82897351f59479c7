package real

import (
	"math"
	"testing"

	"handbell/api"
)

// most is the greatest mantissa of a number, as the chapter writes it out.
const most = 8388605

func number(mantissa, exponent int) api.Real {
	return api.Real{Mantissa: mantissa, Exponent: exponent}
}

// kindsOfShort and kindsOfLong are the mantissas that are no numbers, as the chapter writes them out.
func kindsOfShort() map[int]int {
	return map[int]int{2047: api.RealNone, -2048: api.RealOff, 2046: api.RealOver, -2046: api.RealUnder, -2047: api.RealReserved}
}

func kindsOfLong() map[int]int {
	return map[int]int{8388607: api.RealNone, -8388608: api.RealOff, 8388606: api.RealOver, -8388606: api.RealUnder, -8388607: api.RealReserved}
}

// withSign is what a number of so many bits is, if the highest counts below 0.
func withSign(x, bits int) int {
	if x >= 1<<(bits-1) {
		return x - 1<<bits
	}
	return x
}

// meaning is the chapter's 'what 16, what 32 bits say', reckoned without shifts.
func meaning(x, mantissaBits, exponentBits int, kinds map[int]int) api.Real {
	m := withSign(x%(1<<mantissaBits), mantissaBits)
	e := withSign(x/(1<<mantissaBits), exponentBits)
	kind, special := kinds[m]
	switch {
	case !special:
		return number(m, e)
	case e != 0:
		return api.Real{Kind: api.RealReserved}
	}
	return api.Real{Kind: kind}
}

// words32 are words of 32 bits: every exponent with mantissas near every edge, and some in between.
func words32() []uint32 {
	var mantissas []uint32
	for i := range uint32(10) {
		mantissas = append(mantissas, i, 0x7FFFFF-i, 0x800000+i, 0xFFFFFF-i)
	}
	for m := uint32(0); m < 1<<24; m += 65521 {
		mantissas = append(mantissas, m)
	}
	var out []uint32
	for e := range uint32(256) {
		for _, m := range mantissas {
			out = append(out, e<<24|m)
		}
	}
	return out
}

// wrong are reals that may not be.
func wrong() []api.Real {
	out := []api.Real{
		number(most+1, 0), number(-most-1, 0), number(0, 128), number(0, -129), number(most, 128), number(-most, -129),
		number(most+1, 128), number(1<<23, 0), number(-1<<23, 0), number(1<<24, 0), number(1, 256), number(math.MaxInt, 0),
		number(math.MinInt, 0), number(1, math.MaxInt), number(1, math.MinInt), number(1<<32, 0), number(1<<32+1, 1<<32),
	}
	for _, kind := range []int{-1, 6, 7, -5, 1 << 32, 1<<32 + 1, math.MaxInt, math.MinInt} {
		out = append(out, api.Real{Kind: kind}, api.Real{Kind: kind, Mantissa: 366, Exponent: -1})
	}
	for kind := api.RealNone; kind <= api.RealReserved; kind++ {
		for _, v := range []int{1, -1, most, 128, math.MaxInt, math.MinInt} {
			out = append(out, api.Real{Kind: kind, Mantissa: v}, api.Real{Kind: kind, Exponent: v}, api.Real{Kind: kind, Mantissa: v, Exponent: v})
		}
	}
	return out
}

// P2.1

func TestShortOfAllWords(t *testing.T) {
	for x := range 1 << 16 {
		if got, want := Short(uint16(x)), meaning(x, 12, 4, kindsOfShort()); got != want {
			t.Errorf("Short(%#04x): %+v, not %+v", x, got, want)
		}
	}
}

func TestLong(t *testing.T) {
	for _, x := range words32() {
		if got, want := Long(x), meaning(int(x), 24, 8, kindsOfLong()); got != want {
			t.Errorf("Long(%#08x): %+v, not %+v", x, got, want)
		}
	}
}

func TestBitsOfTheExamples(t *testing.T) {
	for x, want := range map[uint16]api.Real{
		0xF16E: number(366, -1), 0x0000: number(0, 0), 0xF000: number(0, -1),
		0x07FF: {Kind: api.RealNone}, 0x0800: {Kind: api.RealOff}, 0x07FE: {Kind: api.RealOver},
		0x0802: {Kind: api.RealUnder}, 0x0801: {Kind: api.RealReserved},
		0x17FF: {Kind: api.RealReserved}, 0xF800: {Kind: api.RealReserved}, 0x87FE: {Kind: api.RealReserved},
		0x7802: {Kind: api.RealReserved}, 0x1801: {Kind: api.RealReserved},
		0x87FD: number(2045, -8), 0x77FD: number(2045, 7), 0x0803: number(-2045, 0), 0x0FFF: number(-1, 0),
	} {
		if got := Short(x); got != want {
			t.Errorf("Short(%#04x): %+v, not %+v", x, got, want)
		}
	}
	for x, want := range map[uint32]api.Real{
		0xFF00016E: number(366, -1), 0: number(0, 0), 0xFF000000: number(0, -1),
		0x007FFFFF: {Kind: api.RealNone}, 0x00800000: {Kind: api.RealOff}, 0x007FFFFE: {Kind: api.RealOver},
		0x00800002: {Kind: api.RealUnder}, 0x00800001: {Kind: api.RealReserved},
		0x017FFFFF: {Kind: api.RealReserved}, 0xFF800000: {Kind: api.RealReserved}, 0x807FFFFE: {Kind: api.RealReserved},
		0x7F800002: {Kind: api.RealReserved}, 0x01800001: {Kind: api.RealReserved},
		0x807FFFFD: number(most, -128), 0x7F7FFFFD: number(most, 127), 0x00800003: number(-most, 0), 0x00FFFFFF: number(-1, 0),
	} {
		if got := Long(x); got != want {
			t.Errorf("Long(%#08x): %+v, not %+v", x, got, want)
		}
	}
}

// P2.2

func TestPackShort(t *testing.T) {
	for _, c := range []struct {
		r    api.Real
		want uint16
		e    api.Errno
	}{
		{number(366, -1), 0xF16E, api.OK},
		{number(0, 0), 0, api.OK},
		{number(0, -1), 0xF000, api.OK},
		{number(-1, 0), 0x0FFF, api.OK},
		{number(-1, -1), 0xFFFF, api.OK},
		{number(2045, 7), 0x77FD, api.OK},
		{number(-2045, 7), 0x7803, api.OK},
		{number(2045, -8), 0x87FD, api.OK},
		{number(-2045, -8), 0x8803, api.OK},
		{number(2046, 0), 0, api.ErrRange},
		{number(-2046, 0), 0, api.ErrRange},
		{number(2047, 0), 0, api.ErrRange},
		{number(-2048, 0), 0, api.ErrRange},
		{number(4096, 0), 0, api.ErrRange},
		{number(most, 0), 0, api.ErrRange},
		{number(-most, 0), 0, api.ErrRange},
		{number(1, 8), 0, api.ErrRange},
		{number(0, 8), 0, api.ErrRange},
		{number(1, -9), 0, api.ErrRange},
		{number(1, 16), 0, api.ErrRange},
		{number(1, 127), 0, api.ErrRange},
		{number(1, -128), 0, api.ErrRange},
		{api.Real{Kind: api.RealNone}, 0x07FF, api.OK},
		{api.Real{Kind: api.RealOff}, 0x0800, api.OK},
		{api.Real{Kind: api.RealOver}, 0x07FE, api.OK},
		{api.Real{Kind: api.RealUnder}, 0x0802, api.OK},
		{api.Real{Kind: api.RealReserved}, 0x0801, api.OK},
	} {
		if got, e := PackShort(c.r); got != c.want || e != c.e {
			t.Errorf("PackShort(%+v): %#04x, error %d; not %#04x, error %d", c.r, got, e, c.want, c.e)
		}
	}
}

func TestPackLong(t *testing.T) {
	for r, want := range map[api.Real]uint32{
		number(366, -1):          0xFF00016E,
		number(0, 0):             0,
		number(0, -1):            0xFF000000,
		number(-1, 0):            0x00FFFFFF,
		number(2046, 0):          0x000007FE,
		number(1, 8):             0x08000001,
		number(most, 127):        0x7F7FFFFD,
		number(-most, 127):       0x7F800003,
		number(most, -128):       0x807FFFFD,
		number(-most, -128):      0x80800003,
		{Kind: api.RealNone}:     0x007FFFFF,
		{Kind: api.RealOff}:      0x00800000,
		{Kind: api.RealOver}:     0x007FFFFE,
		{Kind: api.RealUnder}:    0x00800002,
		{Kind: api.RealReserved}: 0x00800001,
	} {
		if got, e := PackLong(r); got != want || e != api.OK {
			t.Errorf("PackLong(%+v): %#08x, error %d; not %#08x", r, got, e, want)
		}
	}
}

func TestWhatMayNotBeIsNotPacked(t *testing.T) {
	for _, r := range wrong() {
		if got, e := PackShort(r); got != 0 || e != api.ErrArg {
			t.Errorf("PackShort(%+v): %#04x, error %d", r, got, e)
		}
		if got, e := PackLong(r); got != 0 || e != api.ErrArg {
			t.Errorf("PackLong(%+v): %#08x, error %d", r, got, e)
		}
	}
}

// P2.6

func TestWhatIsPackedSaysWhatItWas(t *testing.T) {
	for kind := api.RealNone; kind <= api.RealReserved; kind++ {
		thereAndBack(t, api.Real{Kind: kind}, true)
	}
	mantissas := []int{0, 1, -1, 10, 366, -366, 2044, 2045, -2044, -2045, 2046, -2046, 2047, -2047, -2048, 4095, 4096, 65535, 65536, most - 1, most, -most + 1, -most}
	for e := -128; e <= 127; e++ {
		for _, m := range mantissas {
			thereAndBack(t, number(m, e), -2045 <= m && m <= 2045 && -8 <= e && e <= 7)
		}
	}
}

func thereAndBack(t *testing.T, r api.Real, isShort bool) {
	t.Helper()
	y, e := PackLong(r)
	if e != api.OK || Long(y) != r {
		t.Errorf("%+v is packed as %#08x, error %d, which says %+v", r, y, e, Long(y))
	}
	x, e := PackShort(r)
	if !isShort {
		if x != 0 || e != api.ErrRange {
			t.Errorf("%+v is packed as %#04x, error %d", r, x, e)
		}
		return
	}
	if e != api.OK || Short(x) != r {
		t.Errorf("%+v is packed as %#04x, error %d, which says %+v", r, x, e, Short(x))
	}
}

func TestBitsArePackedAsTheyWere(t *testing.T) {
	for x := range 1 << 16 {
		r := Short(uint16(x))
		want := uint16(x)
		if r.Kind == api.RealReserved {
			want = 0x0801
		}
		if got, e := PackShort(r); got != want || e != api.OK {
			t.Errorf("%#04x is packed as %#04x, error %d", x, got, e)
		}
	}
	for _, x := range words32() {
		r := Long(x)
		want := x
		if r.Kind == api.RealReserved {
			want = 0x00800001
		}
		if got, e := PackLong(r); got != want || e != api.OK {
			t.Errorf("%#08x is packed as %#08x, error %d", x, got, e)
		}
	}
}

func TestSixteenBitsSayNoOtherNumbers(t *testing.T) {
	for x := range 1 << 16 {
		r := Short(uint16(x))
		y, e := PackLong(r)
		if e != api.OK || Long(y) != r {
			t.Errorf("%#04x says %+v, which 32 bits say as %+v, error %d", x, r, Long(y), e)
		}
	}
}
