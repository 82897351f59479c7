package apdu

import (
	"bytes"
	"slices"
	"testing"

	"handbell/api"
)

// refused is what Unpack answers beside an error.
func refused(t *testing.T, b []byte, e api.Errno) {
	t.Helper()
	wantUnpack(t, b, api.Apdu{}, e)
}

// inside are bytes of a kind within data.
func inside(kind int, b ...byte) []byte { return part(0xE700, part(kind, b...)...) }

func TestP62Examples(t *testing.T) {
	wantUnpack(t, []byte{0xe6, 0, 0, 2, 0, 5}, api.Apdu{Kind: api.ApduAbort, Reason: 5}, api.OK)
	refused(t, []byte{0xe6, 0, 0, 2, 0}, api.ErrTrunc)
	refused(t, []byte{0xe6, 0, 0, 2, 0, 5, 0}, api.ErrSyntax)
	refused(t, []byte{0xe9, 0, 0, 0}, api.ErrSyntax)
	refused(t, []byte{0xe6, 0, 0, 1, 0}, api.ErrTrunc)
}

func TestP62EachKind(t *testing.T) {
	for _, w := range writtenOut() {
		wantUnpack(t, w.b, w.a, api.OK)
	}
}

func TestP62Nothing(t *testing.T) {
	for _, b := range [][]byte{nil, {}, {0xE6}, {0xE6, 0}, {0xE6, 0, 0}, {0xE9, 0, 0}, {0xFF, 0xFF, 0xFF}} {
		refused(t, b, api.ErrTrunc)
	}
}

func TestP62LengthsAheadOfKinds(t *testing.T) {
	for _, kind := range []int{0, 7, 0xE900, 0x0D1E, 0xE600, 0xE700, 0xFFFF} {
		head := two(kind)
		refused(t, slices.Concat(head, []byte{0, 1}), api.ErrTrunc)
		refused(t, slices.Concat(head, []byte{0, 3, 0, 0}), api.ErrTrunc)
		refused(t, slices.Concat(head, []byte{255, 255, 0, 0}), api.ErrTrunc)
		refused(t, slices.Concat(head, []byte{1, 0, 0, 0}), api.ErrTrunc)
		refused(t, slices.Concat(head, []byte{0, 0, 0}), api.ErrSyntax)
		refused(t, slices.Concat(head, []byte{0, 1, 0, 0}), api.ErrSyntax)
	}
	for _, kind := range []int{0, 7, 0xE600, 0xE700, 0x0D1B, 0x0D1D, 0x0D1F} {
		head := two(kind)
		for n := range 4 {
			refused(t, part(0xE700, slices.Concat(head, []byte{0, 0})[:n]...), api.ErrTrunc)
		}
		refused(t, part(0xE700, slices.Concat(head, []byte{0, 5, 0, 1, 0, 2})...), api.ErrTrunc)
		refused(t, part(0xE700, slices.Concat(head, []byte{4, 0, 0, 1, 0, 2})...), api.ErrTrunc)
		refused(t, part(0xE700, slices.Concat(head, []byte{0, 3, 0, 1, 0, 2})...), api.ErrSyntax)
		refused(t, part(0xE700, slices.Concat(head, []byte{0, 0, 0, 1, 0, 2})...), api.ErrSyntax)
	}
	// The length without is looked at ahead of all that stands within.
	refused(t, append(part(0xE700, 0x0D), 0), api.ErrSyntax)
	refused(t, append(inside(0x0D1E, 255, 255), 0), api.ErrSyntax)
	b := inside(7, 0, 0)
	refused(t, b[:len(b)-1], api.ErrTrunc)
}

func TestP62KindsWithout(t *testing.T) {
	for kind := range 65536 {
		refused(t, part(kind, 0), map[bool]api.Errno{true: api.ErrTrunc, false: api.ErrSyntax}[kind == 0xE700 || slices.Contains(eight[:5], kind)])
		if kind != 0xE200 && kind != 0xE300 && slices.Contains(eight[:5], kind) {
			wantUnpack(t, part(kind, 0, 9), api.Apdu{Kind: kind, Reason: 9}, api.OK)
		}
	}
	// What is well within data is not without it.
	for _, w := range writtenOut() {
		if inData(w.a.Kind) {
			refused(t, w.b[4:], api.ErrSyntax)
		}
	}
}

func TestP62KindsWithin(t *testing.T) {
	for kind := range 65536 {
		refused(t, inside(kind, 0), map[bool]api.Errno{true: api.ErrTrunc, false: api.ErrSyntax}[inData(kind)])
	}
	for _, w := range writtenOut() {
		// Neither a kind that stands without nor data itself stands within data.
		refused(t, part(0xE700, part(0xE700, w.b...)...), api.ErrSyntax)
		if !inData(w.a.Kind) {
			refused(t, part(0xE700, w.b...), api.ErrSyntax)
		}
	}
}

func TestP62System(t *testing.T) {
	for _, n := range []int{0, 1, 7, 9, 255, 256, 1000} {
		refused(t, part(0xE200, slices.Concat(two(n), make([]byte, n), two(3))...), api.ErrSyntax)
		// It is looked at ahead of Config, and of what is left.
		refused(t, part(0xE200, slices.Concat(two(n), make([]byte, n))...), api.ErrSyntax)
		refused(t, part(0xE200, slices.Concat(two(n), make([]byte, n+1))...), api.ErrSyntax)
		refused(t, part(0xE200, slices.Concat(two(n), make([]byte, n+5))...), api.ErrSyntax)
	}
	refused(t, part(0xE200), api.ErrTrunc)
	refused(t, part(0xE200, 0), api.ErrTrunc)
	for n := range 8 {
		refused(t, part(0xE200, slices.Concat(two(8), make([]byte, n))...), api.ErrTrunc)
	}
	for _, n := range []int{11, 12, 256, 65535} {
		refused(t, part(0xE200, slices.Concat(two(n), make([]byte, 10))...), api.ErrTrunc)
	}
	refused(t, part(0xE200, slices.Concat(two(8), make([]byte, 8))...), api.ErrTrunc)
	refused(t, part(0xE200, slices.Concat(two(8), make([]byte, 9))...), api.ErrTrunc)
	refused(t, part(0xE200, slices.Concat(two(8), make([]byte, 11))...), api.ErrSyntax)
}

func TestP62Limits(t *testing.T) {
	d := &dice{4}
	for _, n := range []int{0, 1, 15, 16, 17, 64, 256, 257, 65535} {
		rows := make([]byte, 0, 5*n)
		for i := range min(n, 20) {
			rows = append(rows, 0, byte(i), 0, 1, 0)
		}
		if n <= 16 {
			a := api.Apdu{Kind: api.ApduConfig, Objects: d.objects(n)}
			wantUnpack(t, bytesOf(a), a, api.OK)
			continue
		}
		refused(t, inside(0x0D1C, slices.Concat(two(1), two(n), rows)...), api.ErrLimit)
		// It is looked at behind the number itself: ahead of what is missing, wrong or left behind it.
		refused(t, inside(0x0D1C, slices.Concat(two(1), two(n))...), api.ErrLimit)
		refused(t, inside(0x0D1C, slices.Concat(two(1), two(n), make([]byte, 3))...), api.ErrLimit)
	}
	for _, n := range []int{0, 1, 63, 64, 65, 66, 256, 65535} {
		if n <= 64 {
			a := api.Apdu{Kind: api.ApduScan, Obs: d.obs(n)}
			wantUnpack(t, bytesOf(a), a, api.OK)
			continue
		}
		rows := bytes.Repeat([]byte{0, 1, 2, 0, 0}, min(n, 70))
		refused(t, inside(0x0D1E, slices.Concat(two(n), rows)...), api.ErrLimit)
		refused(t, inside(0x0D1E, two(n)...), api.ErrLimit)
		refused(t, inside(0x0D1E, slices.Concat(two(n), make([]byte, 3))...), api.ErrLimit)
	}
}

func TestP62FewerThanTheySay(t *testing.T) {
	for _, w := range writtenOut() {
		body := bodyOf(w.a)
		for n := range body {
			b := part(w.a.Kind, body[:n]...)
			if inData(w.a.Kind) {
				b = part(0xE700, b...)
			}
			refused(t, b, api.ErrTrunc)
		}
	}
	refused(t, inside(0x0D1C, 0, 1, 0, 2, 0, 1, 0, 0, 0), api.ErrTrunc)
	refused(t, inside(0x0D1E, 0, 2, 0, 1, 2, 0, 0), api.ErrTrunc)
	refused(t, inside(0x0D1E, 0, 1, 0, 1, 4, 0, 0), api.ErrTrunc)
	refused(t, inside(0x0D1E, 0, 1, 0, 1, 4, 0, 0, 0), api.ErrTrunc)
}

func TestP62MoreThanTheySay(t *testing.T) {
	for _, w := range writtenOut() {
		for _, more := range [][]byte{{0}, {255}, {0, 0}, {0xE6, 0, 0, 2, 0, 5}} {
			b := part(w.a.Kind, append(bodyOf(w.a), more...)...)
			if inData(w.a.Kind) {
				refused(t, part(0xE700, b...), api.ErrSyntax)
				// Within data, behind the message.
				refused(t, part(0xE700, append(part(w.a.Kind, bodyOf(w.a)...), more...)...), api.ErrSyntax)
				continue
			}
			refused(t, b, api.ErrSyntax)
		}
	}
	refused(t, inside(0x0D1C, 0, 1, 0, 0, 0, 1, 0, 0, 0), api.ErrSyntax)
	refused(t, inside(0x0D1E, 0, 0, 0, 1, 2, 0, 0), api.ErrSyntax)
	refused(t, inside(0x0D1E, 0, 1, 0, 1, 2, 0, 0, 0, 0), api.ErrSyntax)
}

func TestP62SameHandles(t *testing.T) {
	d := &dice{5}
	for i := range 16 {
		for j := range i {
			a := api.Apdu{Kind: api.ApduConfig, Objects: d.objects(16)}
			a.Objects[i].Handle = a.Objects[j].Handle
			refused(t, bytesOf(a), api.ErrSyntax)
		}
	}
	// It is looked at behind the handle: ahead of what is missing behind it.
	refused(t, inside(0x0D1C, 0, 1, 0, 2, 0, 7, 0, 0, 0, 0, 7), api.ErrSyntax)
	refused(t, inside(0x0D1C, 0, 1, 0, 2, 0, 7, 0, 0, 0, 0, 7, 0, 0), api.ErrSyntax)
	refused(t, inside(0x0D1C, 0, 1, 0, 2, 0, 7, 0, 0, 0, 0, 8, 0, 0), api.ErrTrunc)
	a := api.Apdu{Kind: api.ApduScan, Obs: slices.Repeat([]api.Obs{{Handle: 5, Bits: 1}}, 64)}
	wantUnpack(t, bytesOf(a), a, api.OK)
	a = api.Apdu{Kind: api.ApduConfig, Objects: []api.Object{{Handle: 0}, {Handle: 65535}, {Handle: 256}, {Handle: 1}}}
	wantUnpack(t, bytesOf(a), a, api.OK)
}

func TestP62Long(t *testing.T) {
	for v := range 256 {
		b := inside(0x0D1C, 0, 1, 0, 2, 0, 7, 0, 1, byte(v), 0, 8, 0, 2, 1)
		// Of what is wrong twice the first: Long, though the next object is not there.
		short := inside(0x0D1C, 0, 1, 0, 2, 0, 7, 0, 1, byte(v))
		if v > 1 {
			refused(t, b, api.ErrSyntax)
			refused(t, short, api.ErrSyntax)
			continue
		}
		wantUnpack(t, b, api.Apdu{Kind: api.ApduConfig, Config: 1, Objects: []api.Object{{Handle: 7, Unit: 1, Long: v == 1}, {Handle: 8, Unit: 2, Long: true}}}, api.OK)
		refused(t, short, api.ErrTrunc)
	}
}

func TestP62SizesOfBits(t *testing.T) {
	for size := range 256 {
		b := slices.Concat([]byte{0, 1, 0, 9, byte(size)}, slices.Repeat([]byte{0x81}, size))
		switch size {
		case 2:
			wantUnpack(t, inside(0x0D1E, b...), api.Apdu{Kind: api.ApduScan, Obs: []api.Obs{{Handle: 9, Bits: 0x8181}}}, api.OK)
		case 4:
			wantUnpack(t, inside(0x0D1E, b...), api.Apdu{Kind: api.ApduScan, Obs: []api.Obs{{Handle: 9, Long: true, Bits: 0x81818181}}}, api.OK)
		default:
			refused(t, inside(0x0D1E, b...), api.ErrSyntax)
			refused(t, inside(0x0D1E, b[:5]...), api.ErrSyntax)
		}
	}
}

func TestP62Numbers(t *testing.T) {
	for _, n := range []int{0, 1, 255, 256, 65535} {
		for _, a := range bounds(n) {
			wantUnpack(t, bytesOf(a), a, api.OK)
		}
	}
	for _, bits := range []uint32{0, 65535, 65536, 1 << 31, 1<<32 - 1} {
		a := api.Apdu{Kind: api.ApduScan, Obs: []api.Obs{{Handle: 1, Long: true, Bits: bits}, {Handle: 2, Bits: bits % 65536}}}
		wantUnpack(t, bytesOf(a), a, api.OK)
	}
}

// TestP62OneByte goes through all values of each byte of each message.
func TestP62OneByte(t *testing.T) {
	for _, w := range writtenOut() {
		for i := range w.b {
			for v := range 256 {
				b := bytes.Clone(w.b)
				b[i] = byte(v)
				a, e := modelUnpack(b)
				wantUnpack(t, b, a, e)
			}
		}
	}
}

// spoil changes bytes so that most of what P6.2 looks at is reached.
func (d *dice) spoil(a api.Apdu) []byte {
	body := bodyOf(a)
	for range d.below(3) {
		switch n := len(body); d.below(4) {
		case 0:
			body = body[:d.below(n+1)]
		case 1:
			body = append(body, d.stuff(d.below(4))...)
		default:
			if n > 0 {
				body[d.below(n)] = []byte{0, 1, 2, 4, byte(d.below(256))}[d.below(5)]
			}
		}
	}
	b := part(a.Kind, body...)
	if d.below(20) == 0 {
		b[d.below(len(b))]++
	}
	if inData(a.Kind) != (d.below(20) == 0) {
		b = part(0xE700, b...)
	}
	if d.below(20) == 0 {
		b[d.below(len(b))]--
	}
	return b
}

func TestP62AgainstWords(t *testing.T) {
	d := &dice{6}
	seen := map[api.Errno]int{}
	for range 40000 {
		b := d.spoil(d.message())
		a, e := modelUnpack(b)
		seen[e]++
		wantUnpack(t, b, a, e)
	}
	for _, e := range []api.Errno{api.OK, api.ErrTrunc, api.ErrSyntax, api.ErrLimit} {
		if seen[e] < 300 {
			t.Errorf("error %d only %d times", e, seen[e])
		}
	}
}

// TestP62AnyBytes has bytes of a few values, of which many are nearly messages.
func TestP62AnyBytes(t *testing.T) {
	d := &dice{7}
	few := []byte{0xE7, 0, 0, 0, 0x0D, 0x1E, 0x1C, 1, 2, 4, 8, 0xE2}
	for range 100000 {
		b := make([]byte, d.below(24))
		for i := range b {
			b[i] = few[d.below(len(few))]
		}
		if len(b) >= 4 {
			b[1], b[2], b[3] = 0, 0, byte(len(b)-4)
		}
		a, e := modelUnpack(b)
		wantUnpack(t, b, a, e)
	}
}
