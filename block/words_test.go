package block

import (
	"bytes"
	"math"
	"slices"
	"testing"

	"handbell/api"
)

// Bounds and errors, by their numbers.
const (
	size        = 64
	mostSectors = 256

	noDevice = 1
	badArg   = 2
	noPower  = 220
)

// model is the chapter's words said again, byte by byte.
type model struct {
	keeps, last [][]byte
	since       []bool // written since a flush
	armed, dead bool
	operations  int
}

func modelOf(n int) *model {
	m := &model{since: make([]bool, n)}
	for range n {
		m.keeps = append(m.keeps, make([]byte, size))
		m.last = append(m.last, make([]byte, size))
	}
	return m
}

func (m *model) is(i int) bool { return i >= 0 && i < len(m.since) }

// goes is whether the power goes at an operation.
func (m *model) goes() bool {
	if m.armed && m.operations == 0 {
		m.dead = true
		return true
	}
	m.operations--
	return false
}

func (m *model) read(i int) ([]byte, api.Errno) {
	if m.dead {
		return nil, noPower
	}
	if !m.is(i) {
		return nil, badArg
	}
	return m.last[i], 0
}

func (m *model) write(i int, b []byte) api.Errno {
	if m.dead {
		return noPower
	}
	if !m.is(i) || len(b) != size {
		return badArg
	}
	if m.goes() {
		return noPower
	}
	m.last[i], m.since[i] = slices.Clone(b), true
	return 0
}

func (m *model) flush() api.Errno {
	if m.dead || m.goes() {
		return noPower
	}
	copy(m.keeps, m.last)
	m.since = make([]bool, len(m.since))
	return 0
}

func (m *model) arm(n int) api.Errno {
	if m.dead {
		return noPower
	}
	m.armed, m.operations = n >= 0, n
	return 0
}

func (m *model) crash() api.Errno {
	if m.dead {
		return noPower
	}
	m.dead = true
	return 0
}

func (m *model) boot(choices []int) api.Errno {
	for i, is := range m.since {
		if !is {
			continue
		}
		c := 0
		if len(choices) > 0 {
			c, choices = choices[0], choices[1:]
		}
		m.keeps[i] = mixed(m.keeps[i], m.last[i], c)
	}
	copy(m.last, m.keeps)
	m.since = make([]bool, len(m.since))
	m.armed, m.dead = false, false
	return 0
}

// mixed is what a sector keeps by a choice.
func mixed(old, now []byte, c int) []byte {
	c -= c / 189 * 189
	if c < 0 {
		c += 189
	}
	var b []byte
	for i := range size {
		if c%3 == 1 || c%3 == 2 && i < c/3+1 {
			b = append(b, now[i])
		} else {
			b = append(b, old[i])
		}
	}
	return b
}

func news(t *testing.T, n int) *Device {
	t.Helper()
	d, e := New(n)
	if d == nil || e != 0 {
		t.Fatalf("New(%d) = %v, %d", n, d, e)
	}
	return d
}

// all is a sector of one number.
func all(v byte) []byte { return bytes.Repeat([]byte{v}, size) }

// marked is a sector that is not like another mark's at any of its bytes, and not like itself at any two places.
func marked(v int) []byte {
	b := make([]byte, size)
	for i := range b {
		b[i] = byte(i + 64*(v%4))
	}
	return b
}

func answers(t *testing.T, what string, e, want api.Errno) {
	t.Helper()
	if e != want {
		t.Fatalf("%s: %d, not %d", what, e, want)
	}
}

func writes(t *testing.T, d *Device, i int, b []byte, want api.Errno) {
	t.Helper()
	answers(t, "Write", d.Write(i, b), want)
}

func flushes(t *testing.T, d *Device, want api.Errno) {
	t.Helper()
	answers(t, "Flush", d.Flush(), want)
}

func boots(t *testing.T, d *Device, choices ...int) {
	t.Helper()
	answers(t, "Boot", d.Boot(choices), 0)
}

func arms(t *testing.T, d *Device, n int) {
	t.Helper()
	answers(t, "Arm", d.Arm(n), 0)
}

func crashes(t *testing.T, d *Device) {
	t.Helper()
	answers(t, "Crash", d.Crash(), 0)
}

func reads(t *testing.T, d *Device, i int, want []byte) {
	t.Helper()
	if b, e := d.Read(i); !bytes.Equal(b, want) || e != 0 {
		t.Fatalf("Read(%d) = %x, %d; want %x", i, b, e, want)
	}
}

func refusesRead(t *testing.T, d *Device, i int, want api.Errno) {
	t.Helper()
	if b, e := d.Read(i); b != nil || e != want {
		t.Fatalf("Read(%d) = %x, %d; want %d", i, b, e, want)
	}
}

func isDead(t *testing.T, d *Device, want bool) {
	t.Helper()
	if d.Dead() != want {
		t.Fatalf("Dead = %v", !want)
	}
}

// held is all that can be read of a device.
func held(t *testing.T, d *Device) [][]byte {
	t.Helper()
	var l [][]byte
	for i := range d.Sectors() {
		b, e := d.Read(i)
		if len(b) != size || e != 0 {
			t.Fatalf("Read(%d) = %x, %d", i, b, e)
		}
		l = append(l, b)
	}
	return l
}

func same(a, b [][]byte) bool { return slices.EqualFunc(a, b, bytes.Equal) }

// dice throws numbers, always the same ones.
type dice struct{ x uint64 }

func (d *dice) below(n int) int {
	d.x = d.x*6364136223846793005 + 1442695040888963407
	return int(d.x >> 33 % uint64(n))
}

func pick[T any](d *dice, l ...T) T { return l[d.below(len(l))] }

func (d *dice) sector() []byte {
	b := make([]byte, size)
	for i := range b {
		b[i] = byte(d.below(256))
	}
	return b
}

func (d *dice) choices() []int {
	l := make([]int, d.below(12))
	for i := range l {
		l[i] = pick(d, 0, 1, 2, d.below(189), d.below(1000)-500, pick(d, edges()...))
	}
	return l
}

// edges are numbers about which a bound may be misplaced, and far ones.
func edges() []int {
	return []int{
		math.MinInt, math.MinInt + 1, math.MinInt32, -257, -256, -190, -189, -188, -65, -64, -63, -3, -2, -1, 0, 1, 2, 3, 4, 5,
		31, 32, 33, 62, 63, 64, 65, 127, 128, 186, 187, 188, 189, 190, 191, 255, 256, 257, 377, 378, math.MaxInt32, 1 << 32, 1<<32 + 1, math.MaxInt - 1, math.MaxInt,
	}
}
