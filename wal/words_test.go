package wal

import (
	"bytes"
	"math"
	"slices"
	"testing"

	"handbell/api"
	"handbell/block"
)

// Bounds and errors, by their numbers.
const (
	size    = 64
	fewest  = 4
	most    = 64
	atOnce  = 8
	noLog   = 1
	badArg  = 2
	tooBig  = 5
	noPower = 220
	badLog  = 230
)

// numberOf is what four bytes say.
func numberOf(b []byte) int {
	return int(b[0])<<24 + int(b[1])<<16 + int(b[2])<<8 + int(b[3])
}

func bytesOf(v int) []byte {
	return []byte{byte(v >> 24), byte(v >> 16), byte(v >> 8), byte(v)}
}

// between are a sector's bytes with stamps about them, noughts behind those that are given.
func between(stamp int, given ...byte) []byte {
	return slices.Concat(bytesOf(stamp), given, make([]byte, 56-len(given)), bytesOf(stamp))
}

func head(stamp int) []byte { return between(stamp, 3) }

// piece is the first (0) or second (1) one of the two sectors for a write.
func piece(stamp, n, write, which int, data []byte) []byte {
	given := []byte{1, byte(n), byte(write), byte(which), 0, 0, 0, 0, 0, 0, 0, 0}
	return between(stamp, append(given, data[32*which:32*which+32]...)...)
}

func end(stamp int, to ...int) []byte {
	given := []byte{2, byte(len(to)), 0, 0, 0, 0, 0, 0, 0, 0, 0, 0}
	for _, x := range to {
		given = append(given, byte(x>>8), byte(x))
	}
	return between(stamp, given...)
}

// record is all that stands in the log of one.
func record(stamp int, w ...Write) [][]byte {
	var l [][]byte
	var to []int
	for i, x := range w {
		l = append(l, piece(stamp, len(w), i, 0, x.Data), piece(stamp, len(w), i, 1, x.Data))
		to = append(to, x.Sector)
	}
	return append(l, end(stamp, to...))
}

// stampOf is a whole sector's stamp; 0, if it is not whole.
func stampOf(b []byte) int {
	if !bytes.Equal(b[:4], b[60:]) {
		return 0
	}
	return numberOf(b)
}

// model is the chapter's words said again, on a device of its own.
type model struct {
	d       *block.Device
	log     int // its sectors
	next    int
	records [][]Write // since it was opened, or since the last checkpoint
	broken  bool
}

func opened(d *block.Device, sectors int) (*model, api.Errno) {
	switch {
	case d.Sectors() == 0:
		return nil, noLog
	case sectors < fewest || sectors > most || sectors >= d.Sectors():
		return nil, badArg
	case d.Dead():
		return nil, noPower
	}
	m := &model{d: d, log: sectors}
	for i := range sectors {
		b, _ := d.Read(i)
		m.next = max(m.next, numberOf(b), numberOf(b[60:]))
	}
	if m.next > 1<<31-1 {
		return nil, badLog
	}
	m.next++
	held := m.holds()
	for _, r := range held {
		for _, w := range r {
			m.writes(w.Sector, w.Data)
		}
	}
	if len(held) > 0 {
		m.flushes()
	}
	m.beginAnew()
	if m.broken {
		return nil, noPower
	}
	return m, 0
}

// holds are the records of the log, found sector by sector.
func (m *model) holds() [][]Write {
	stamp := stampOf(m.sector(0))
	if stamp == 0 || !bytes.Equal(m.sector(0), head(stamp)) {
		return nil
	}
	var found [][]Write
	at := 1
	for {
		stamp++
		r := m.recordAt(at, stamp)
		if r == nil {
			return found
		}
		found = append(found, r)
		at += 2*len(r) + 1
	}
}

func (m *model) sector(i int) []byte {
	b, _ := m.d.Read(i)
	return b
}

// recordAt tries all numbers of writes that a record may have.
func (m *model) recordAt(at, stamp int) []Write {
	for n := 1; n <= atOnce && at+2*n < m.log; n++ {
		if l := m.recordOf(at, stamp, n); l != nil {
			return l
		}
	}
	return nil
}

func (m *model) recordOf(at, stamp, n int) []Write {
	var l []Write
	for i := range n {
		a, b, to := m.sector(at+2*i), m.sector(at+2*i+1), m.sector(at + 2*n)[16+2*i:]
		w := Write{int(to[0])*256 + int(to[1]), append(a[16:48:48], b[16:48]...)}
		for _, x := range l {
			if x.Sector == w.Sector {
				return nil
			}
		}
		if w.Sector < m.log || w.Sector >= m.d.Sectors() {
			return nil
		}
		l = append(l, w)
	}
	for i, b := range record(stamp, l...) {
		if !bytes.Equal(b, m.sector(at+i)) {
			return nil
		}
	}
	return l
}

// writes and flushes do nothing any more once the device has answered an error.
func (m *model) writes(i int, b []byte) {
	m.broken = m.broken || m.d.Write(i, b) != 0
}

func (m *model) flushes() {
	m.broken = m.broken || m.d.Flush() != 0
}

func (m *model) beginAnew() {
	m.writes(0, head(m.next))
	m.flushes()
	m.next++
	m.records = nil
}

// answer is what a call answers that has come to its end.
func (m *model) answer() api.Errno {
	if m.broken {
		return noPower
	}
	return 0
}

// taken are the log's sectors that the records take.
func (m *model) taken() int {
	n := 0
	for _, r := range m.records {
		n += 2*len(r) + 1
	}
	return n
}

func (m *model) mayCommit(w []Write) bool {
	to := map[int]bool{}
	for _, x := range w {
		to[x.Sector] = true
		if len(x.Data) != size || x.Sector < m.log || x.Sector >= m.d.Sectors() {
			return false
		}
	}
	return len(w) >= 1 && len(w) <= atOnce && len(to) == len(w)
}

func (m *model) commit(w ...Write) api.Errno {
	switch {
	case m.broken:
		return noPower
	case !m.mayCommit(w):
		return badArg
	case 2*len(w)+1 > m.log-1:
		return tooBig
	}
	if m.taken()+2*len(w)+1 > m.log-1 {
		m.checkpoint()
	}
	at, l := 1+m.taken(), record(m.next, w...)
	m.next++
	for i, b := range l {
		if i == len(l)-1 {
			m.flushes()
		}
		m.writes(at+i, b)
	}
	m.flushes()
	m.records = append(m.records, copied(w))
	return m.answer()
}

func copied(w []Write) []Write {
	var l []Write
	for _, x := range w {
		l = append(l, Write{x.Sector, slices.Clone(x.Data)})
	}
	return l
}

func (m *model) read(i int) ([]byte, api.Errno) {
	if m.broken || m.d.Dead() {
		return nil, noPower
	}
	if i < m.log || i >= m.d.Sectors() {
		return nil, badArg
	}
	if b := m.written(i); b != nil {
		return b, 0
	}
	return m.d.Read(i)
}

// written is what the last record that writes to a sector writes there; nothing, if none does.
func (m *model) written(i int) []byte {
	var b []byte
	for _, r := range m.records {
		for _, w := range r {
			if w.Sector == i {
				b = w.Data
			}
		}
	}
	return b
}

func (m *model) checkpoint() api.Errno {
	if m.broken || len(m.records) == 0 {
		return m.answer()
	}
	for i := m.log; i < m.d.Sectors(); i++ {
		if b := m.written(i); b != nil {
			m.writes(i, b)
		}
	}
	m.flushes()
	m.beginAnew()
	return m.answer()
}

func device(t *testing.T, n int) *block.Device {
	t.Helper()
	d, e := block.New(n)
	if d == nil || e != 0 {
		t.Fatalf("New(%d) = %v, %d", n, d, e)
	}
	return d
}

func opens(t *testing.T, d *block.Device, sectors int) *Log {
	t.Helper()
	l, e := Open(d, sectors)
	if l == nil || e != 0 {
		t.Fatalf("Open(%d) = %v, %d", sectors, l, e)
	}
	return l
}

func refusesOpen(t *testing.T, d *block.Device, sectors int, want api.Errno) {
	t.Helper()
	if l, e := Open(d, sectors); l != nil || e != want {
		t.Fatalf("Open(%d) = %v, %d; want %d", sectors, l, e, want)
	}
}

func answers(t *testing.T, what string, e, want api.Errno) {
	t.Helper()
	if e != want {
		t.Fatalf("%s: %d, not %d", what, e, want)
	}
}

func commits(t *testing.T, l *Log, want api.Errno, w ...Write) {
	t.Helper()
	answers(t, "Commit", l.Commit(w...), want)
}

func checkpoints(t *testing.T, l *Log, want api.Errno) {
	t.Helper()
	answers(t, "Checkpoint", l.Checkpoint(), want)
}

func reads(t *testing.T, l *Log, i int, want []byte) {
	t.Helper()
	if b, e := l.Read(i); !bytes.Equal(b, want) || e != 0 {
		t.Fatalf("Read(%d) = %x, %d; want %x", i, b, e, want)
	}
}

func refusesRead(t *testing.T, l *Log, i int, want api.Errno) {
	t.Helper()
	if b, e := l.Read(i); b != nil || e != want {
		t.Fatalf("Read(%d) = %x, %d; want %d", i, b, e, want)
	}
}

// has holds a sector of the device against what it should have.
func has(t *testing.T, d *block.Device, i int, want []byte) {
	t.Helper()
	if b, e := d.Read(i); !bytes.Equal(b, want) || e != 0 {
		t.Fatalf("the device's sector %d = %x, %d; want %x", i, b, e, want)
	}
}

// lays writes sectors one behind the other, and flushes them.
func lays(t *testing.T, d *block.Device, at int, sectors ...[]byte) {
	t.Helper()
	for i, b := range sectors {
		answers(t, "lays", d.Write(at+i, b), 0)
	}
	answers(t, "lays", d.Flush(), 0)
}

func boots(t *testing.T, d *block.Device, choices ...int) {
	t.Helper()
	answers(t, "Boot", d.Boot(choices), 0)
}

// contents are all sectors of a device that is alive.
func contents(t *testing.T, d *block.Device) [][]byte {
	t.Helper()
	var l [][]byte
	for i := range d.Sectors() {
		b, e := d.Read(i)
		answers(t, "contents", e, 0)
		l = append(l, b)
	}
	return l
}

func same(a, b [][]byte) bool { return slices.EqualFunc(a, b, bytes.Equal) }

// all is a sector of one number.
func all(v int) []byte { return bytes.Repeat([]byte{byte(v)}, size) }

// marked is a sector whose bytes all differ, and that is not like another mark's.
func marked(v int) []byte {
	b := make([]byte, size)
	for i := range b {
		b[i] = byte(i + 64*v + v/4)
	}
	return b
}

// to is a write of a sector with a mark.
func to(sector, mark int) Write { return Write{sector, marked(mark)} }

// dice throws numbers, always the same ones.
type dice struct{ x uint64 }

func (d *dice) below(n int) int {
	d.x = d.x*6364136223846793005 + 1442695040888963407
	return int(d.x >> 33 % uint64(n))
}

func pick[T any](d *dice, l ...T) T { return l[d.below(len(l))] }

func (d *dice) sector() []byte {
	b := make([]byte, size)
	for i := range b {
		b[i] = byte(d.below(256))
	}
	return b
}

func (d *dice) choices(n int) []int {
	l := make([]int, n)
	for i := range l {
		l[i] = pick(d, 0, 1, 2, d.below(189), d.below(189))
	}
	return l
}

// writes are so many to home sectors, no two the same; there must be as many.
func (d *dice) writes(n, first, behind int) []Write {
	var l []Write
	for len(l) < n {
		x := Write{first + d.below(behind-first), d.sector()}
		if !slices.ContainsFunc(l, func(y Write) bool { return y.Sector == x.Sector }) {
			l = append(l, x)
		}
	}
	return l
}

// edges are numbers about which a bound may be misplaced, and far ones.
func edges() []int {
	return []int{
		math.MinInt, math.MinInt32, -256, -65, -64, -2, -1, 0, 1, 2, 3, 4, 5, 6, 7, 8, 9, 16, 17, 18, 19, 20, 31, 32, 33, 62, 63, 64, 65, 66,
		127, 128, 254, 255, 256, 257, 1 << 16, 1<<16 + 20, math.MaxInt32, 1 << 32, 1<<32 + 20, math.MaxInt - 1, math.MaxInt,
	}
}
