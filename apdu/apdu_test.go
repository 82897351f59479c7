package apdu

import (
	"bytes"
	"slices"
	"testing"

	"handbell/api"
)

// dice are numbers without an order to be seen, the same ones for the same seed.
type dice struct{ x uint64 }

func (d *dice) below(n int) int {
	d.x = d.x*6364136223846793005 + 1442695040888963407
	return int(d.x >> 33 % uint64(n))
}

func (d *dice) stuff(n int) []byte {
	out := make([]byte, n)
	for i := range out {
		out[i] = byte(d.below(256))
	}
	return out
}

// number is one that may be, the least and the greatest among them.
func (d *dice) number() int {
	return []int{0, 1, 255, 256, 65535, d.below(65536), d.below(65536)}[d.below(7)]
}

// outside is a number that may not be.
func (d *dice) outside() int {
	return []int{-1, 65536, -65536, 1 << 31, -1 << 63, 1<<63 - 1}[d.below(6)]
}

// handles are n different ones.
func (d *dice) handles(n int) []int {
	var out []int
	for next := d.below(60000); len(out) < n; next += 1 + d.below(300) {
		out = append(out, next)
	}
	for i := range out {
		j := d.below(i + 1)
		out[i], out[j] = out[j], out[i]
	}
	return out
}

func (d *dice) objects(n int) []api.Object {
	out := make([]api.Object, n)
	for i, h := range d.handles(n) {
		out[i] = api.Object{Handle: h, Unit: d.number(), Long: d.below(2) == 0}
	}
	return out
}

func (d *dice) obs(n int) []api.Obs {
	out := make([]api.Obs, n)
	for i := range out {
		out[i] = api.Obs{Handle: d.number(), Bits: uint32(d.number())}
		if d.below(2) == 0 {
			out[i].Long, out[i].Bits = true, uint32(d.number()<<16+d.number())
		}
	}
	return out
}

// message is one that may be.
func (d *dice) message() api.Apdu {
	a := api.Apdu{Kind: eight[d.below(len(eight))]}
	for _, f := range fieldsOf(a.Kind) {
		switch f {
		case "System":
			a.System = d.stuff(8)
		case "Objects":
			a.Objects = d.objects([]int{0, 1, 16, d.below(17)}[d.below(4)])
		case "Obs":
			a.Obs = d.obs([]int{0, 1, 64, d.below(65)}[d.below(4)])
		default:
			*numberOf(&a, f) = d.number()
		}
	}
	return a
}

// spoilt is a message of which something may have been changed to what may not be.
func (d *dice) spoilt() api.Apdu {
	a := d.message()
	for range 1 + d.below(2) {
		switch d.below(10) {
		case 0:
			a.Kind = []int{0, 7, 0xE700, 0xE100, 0x0D1B, 0x0D1F, eight[d.below(8)]}[d.below(7)]
		case 1:
			a.System = d.stuff([]int{0, 7, 8, 9, 70000}[d.below(5)])
		case 2:
			a.Objects = d.objects([]int{0, 1, 16, 17, 40}[d.below(5)])
		case 3:
			a.Obs = d.obs([]int{0, 1, 64, 65, 200}[d.below(5)])
		case 4:
			*numberOf(&a, []string{"Config", "Result", "Reason"}[d.below(3)]) = d.number()
		case 5:
			*numberOf(&a, []string{"Config", "Result", "Reason"}[d.below(3)]) = d.outside()
		case 6:
			if n := len(a.Objects); n > 0 {
				a.Objects[d.below(n)].Handle = a.Objects[d.below(n)].Handle
			}
		case 7:
			if n := len(a.Objects); n > 0 {
				a.Objects[d.below(n)].Unit = d.outside()
			}
		case 8:
			if n := len(a.Obs); n > 0 {
				a.Obs[d.below(n)].Handle = d.outside()
			}
		case 9:
			if n := len(a.Obs); n > 0 {
				a.Obs[d.below(n)] = api.Obs{Bits: 65535 + uint32(d.below(2))}
			}
		}
	}
	return a
}

var eight = []int{0xE200, 0xE300, 0xE400, 0xE500, 0xE600, 0x0D1C, 0x0D1D, 0x0D1E}

// inData are the three kinds that stand within data.
func inData(kind int) bool { return kind >= 0x0D1C && kind <= 0x0D1E }

// fieldsOf are the names of what a kind has, as they stand behind one another.
func fieldsOf(kind int) []string {
	switch kind {
	case 0xE200:
		return []string{"System", "Config"}
	case 0xE300:
		return []string{"Result", "Config"}
	case 0xE400, 0xE500, 0xE600:
		return []string{"Reason"}
	case 0x0D1C:
		return []string{"Config", "Objects"}
	case 0x0D1D:
		return []string{"Config", "Result"}
	case 0x0D1E:
		return []string{"Obs"}
	}
	return nil
}

func numberOf(a *api.Apdu, field string) *int {
	switch field {
	case "Config":
		return &a.Config
	case "Result":
		return &a.Result
	case "Reason":
		return &a.Reason
	}
	return nil
}

// isSet tells whether a field is something that is not zero.
func isSet(a api.Apdu, field string) bool {
	switch field {
	case "System":
		return len(a.System) > 0
	case "Objects":
		return len(a.Objects) > 0
	case "Obs":
		return len(a.Obs) > 0
	}
	return *numberOf(&a, field) != 0
}

// mayBe is the section 'Words' said again.
func mayBe(a api.Apdu) bool {
	fits := func(n int) bool { return 0 <= n && n <= 65535 }
	has := fieldsOf(a.Kind)
	for _, f := range []string{"System", "Config", "Result", "Reason", "Objects", "Obs"} {
		if isSet(a, f) && !slices.Contains(has, f) {
			return false
		}
	}
	if slices.Contains(has, "System") && len(a.System) != 8 {
		return false
	}
	for i, o := range a.Objects {
		for _, p := range a.Objects[:i] {
			if o.Handle == p.Handle {
				return false
			}
		}
		if !fits(o.Handle) || !fits(o.Unit) {
			return false
		}
	}
	for _, o := range a.Obs {
		if !fits(o.Handle) || !o.Long && o.Bits > 65535 {
			return false
		}
	}
	return fits(a.Config) && fits(a.Result) && fits(a.Reason)
}

// modelPack is P6.1 said again.
func modelPack(a api.Apdu) ([]byte, api.Errno) {
	switch {
	case !slices.Contains(eight, a.Kind):
		return nil, api.ErrArg
	case len(a.Objects) > 16, len(a.Obs) > 64:
		return nil, api.ErrLimit
	case !mayBe(a):
		return nil, api.ErrArg
	}
	return bytesOf(a), api.OK
}

func two(n int) []byte { return []byte{byte(n >> 8), byte(n)} }

// part is a kind, how many bytes follow, and these.
func part(kind int, b ...byte) []byte {
	return slices.Concat(two(kind), two(len(b)), b)
}

// bodyOf are the bytes of the fields alone.
func bodyOf(a api.Apdu) []byte {
	var out []byte
	for _, f := range fieldsOf(a.Kind) {
		switch f {
		case "System":
			out = slices.Concat(out, two(len(a.System)), a.System)
		case "Objects":
			out = append(out, two(len(a.Objects))...)
			for _, o := range a.Objects {
				long := map[bool]byte{true: 1}[o.Long]
				out = append(slices.Concat(out, two(o.Handle), two(o.Unit)), long)
			}
		case "Obs":
			out = append(out, two(len(a.Obs))...)
			for _, o := range a.Obs {
				out = append(out, two(o.Handle)...)
				if o.Long {
					out = slices.Concat(out, []byte{4}, two(int(o.Bits>>16)), two(int(o.Bits)))
				} else {
					out = slices.Concat(out, []byte{2}, two(int(o.Bits)))
				}
			}
		default:
			out = append(out, two(*numberOf(&a, f))...)
		}
	}
	return out
}

// bytesOf are a message's bytes by the section 'Words'.
func bytesOf(a api.Apdu) []byte {
	b := part(a.Kind, bodyOf(a)...)
	if inData(a.Kind) {
		b = part(0xE700, b...)
	}
	return b
}

// modelUnpack is P6.2 said again, rule by rule.
func modelUnpack(b []byte) (api.Apdu, api.Errno) {
	kind, b, e := modelHead(b)
	if e == api.OK && kind == 0xE700 {
		kind, b, e = modelHead(b)
		if e == api.OK && !inData(kind) {
			e = api.ErrSyntax
		}
	} else if e == api.OK && (inData(kind) || !slices.Contains(eight, kind)) {
		e = api.ErrSyntax
	}
	if e != api.OK {
		return api.Apdu{}, e
	}
	m := &model{left: b, a: api.Apdu{Kind: kind}}
	for _, f := range fieldsOf(kind) {
		m.field(f)
	}
	if len(m.left) > 0 {
		m.fail(api.ErrSyntax)
	}
	if m.e != api.OK {
		return api.Apdu{}, m.e
	}
	return m.a, api.OK
}

func modelHead(b []byte) (int, []byte, api.Errno) {
	if len(b) < 4 {
		return 0, nil, api.ErrTrunc
	}
	kind, n := int(b[0])*256+int(b[1]), int(b[2])*256+int(b[3])
	switch b = b[4:]; {
	case len(b) < n:
		return 0, nil, api.ErrTrunc
	case len(b) > n:
		return 0, nil, api.ErrSyntax
	}
	return kind, b, api.OK
}

// model keeps the first thing that was wrong.
type model struct {
	left []byte
	a    api.Apdu
	e    api.Errno
}

func (m *model) fail(e api.Errno) {
	if m.e == api.OK {
		m.e = e
	}
}

func (m *model) number(size int) int {
	if len(m.left) < size {
		m.fail(api.ErrTrunc)
		m.left = nil
		return 0
	}
	n := 0
	for _, x := range m.left[:size] {
		n = n*256 + int(x)
	}
	m.left = m.left[size:]
	return n
}

func (m *model) field(f string) {
	switch f {
	case "System":
		n := m.number(2)
		if len(m.left) < n {
			m.fail(api.ErrTrunc)
			return
		}
		m.a.System, m.left = bytes.Clone(m.left[:n]), m.left[n:]
		if n != 8 {
			m.fail(api.ErrSyntax)
		}
	case "Objects":
		n := m.number(2)
		if n > 16 {
			m.fail(api.ErrLimit)
		}
		for i := 0; i < n && m.e == api.OK; i++ {
			m.object()
		}
	case "Obs":
		n := m.number(2)
		if n > 64 {
			m.fail(api.ErrLimit)
		}
		for i := 0; i < n && m.e == api.OK; i++ {
			m.obs()
		}
	default:
		*numberOf(&m.a, f) = m.number(2)
	}
}

func (m *model) object() {
	handle := m.number(2)
	for _, o := range m.a.Objects {
		if o.Handle == handle {
			m.fail(api.ErrSyntax)
		}
	}
	unit := m.number(2)
	long := m.number(1)
	if long > 1 {
		m.fail(api.ErrSyntax)
	}
	m.a.Objects = append(m.a.Objects, api.Object{Handle: handle, Unit: unit, Long: long == 1})
}

func (m *model) obs() {
	handle := m.number(2)
	size := m.number(1)
	if size != 2 && size != 4 {
		m.fail(api.ErrSyntax)
		return
	}
	m.a.Obs = append(m.a.Obs, api.Obs{Handle: handle, Long: size == 4, Bits: uint32(m.number(size))})
}

// same tells whether two messages are the same, lists without elements being nil or not.
func same(a, b api.Apdu) bool {
	return a.Kind == b.Kind && bytes.Equal(a.System, b.System) && a.Config == b.Config && a.Result == b.Result &&
		a.Reason == b.Reason && slices.Equal(a.Objects, b.Objects) && slices.Equal(a.Obs, b.Obs)
}

func copyOf(a api.Apdu) api.Apdu {
	a.System, a.Objects, a.Obs = bytes.Clone(a.System), slices.Clone(a.Objects), slices.Clone(a.Obs)
	return a
}

func wantPack(t *testing.T, a api.Apdu, want []byte, wantE api.Errno) {
	t.Helper()
	if b, e := Pack(a); !bytes.Equal(b, want) || e != wantE {
		t.Errorf("Pack(%+v) = % x, %d; want % x, %d", a, b, e, want, wantE)
	}
}

func wantUnpack(t *testing.T, b []byte, want api.Apdu, wantE api.Errno) {
	t.Helper()
	if a, e := Unpack(b); !same(a, want) || e != wantE {
		t.Errorf("Unpack(% x) = %+v, %d; want %+v, %d", b, a, e, want, wantE)
	}
}

// written is a message beside its bytes, one that was written out by hand for each kind and shape.
type written struct {
	name string
	a    api.Apdu
	b    []byte
}

func writtenOut() []written {
	return []written{
		{"ask", api.Apdu{Kind: 0xE200, System: []byte{1, 2, 3, 4, 5, 6, 7, 255}, Config: 0x4003},
			[]byte{0xE2, 0, 0, 12, 0, 8, 1, 2, 3, 4, 5, 6, 7, 255, 0x40, 3}},
		{"answer", api.Apdu{Kind: 0xE300, Result: 3, Config: 258}, []byte{0xE3, 0, 0, 4, 0, 3, 1, 2}},
		{"release", api.Apdu{Kind: 0xE400, Reason: 65535}, []byte{0xE4, 0, 0, 2, 255, 255}},
		{"done", api.Apdu{Kind: 0xE500}, []byte{0xE5, 0, 0, 2, 0, 0}},
		{"abort", api.Apdu{Kind: 0xE600, Reason: 5}, []byte{0xE6, 0, 0, 2, 0, 5}},
		{"config of nothing", api.Apdu{Kind: 0x0D1C, Config: 2}, []byte{0xE7, 0, 0, 8, 0x0D, 0x1C, 0, 4, 0, 2, 0, 0}},
		{"config", api.Apdu{Kind: 0x0D1C, Config: 0x1234, Objects: []api.Object{{Handle: 0x0102, Unit: 0x0304, Long: true}, {Handle: 1, Unit: 0xFFFF}}},
			[]byte{0xE7, 0, 0, 18, 0x0D, 0x1C, 0, 14, 0x12, 0x34, 0, 2, 1, 2, 3, 4, 1, 0, 1, 255, 255, 0}},
		{"taken", api.Apdu{Kind: 0x0D1D, Config: 0x0102, Result: 0x0304}, []byte{0xE7, 0, 0, 8, 0x0D, 0x1D, 0, 4, 1, 2, 3, 4}},
		{"scan of nothing", api.Apdu{Kind: 0x0D1E}, []byte{0xE7, 0, 0, 6, 0x0D, 0x1E, 0, 2, 0, 0}},
		{"scan", api.Apdu{Kind: 0x0D1E, Obs: []api.Obs{{Handle: 1, Bits: 0x16E}, {Handle: 1, Long: true, Bits: 0x01020304}, {Handle: 65535, Long: true}}},
			[]byte{0xE7, 0, 0, 25, 0x0D, 0x1E, 0, 21, 0, 3, 0, 1, 2, 1, 0x6E, 0, 1, 4, 1, 2, 3, 4, 255, 255, 4, 0, 0, 0, 0}},
	}
}

// TestWrittenOut holds what the tests say of messages' bytes against what was written by hand.
func TestWrittenOut(t *testing.T) {
	for _, w := range writtenOut() {
		if b := bytesOf(w.a); !bytes.Equal(b, w.b) {
			t.Errorf("%s: % x, want % x", w.name, b, w.b)
		}
		if a, e := modelUnpack(w.b); !same(a, w.a) || e != api.OK {
			t.Errorf("%s: %+v, %d", w.name, a, e)
		}
	}
}
