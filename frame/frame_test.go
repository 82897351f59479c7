package frame

import (
	"bytes"
	"runtime"
	"testing"

	"handbell/api"
	"handbell/crc"
)

// dice are numbers without an order to be seen, the same ones for the same seed.
type dice struct{ x uint64 }

func (d *dice) below(n int) int {
	d.x = d.x*6364136223846793005 + 1442695040888963407
	return int(d.x >> 33 % uint64(n))
}

func (d *dice) stuff(n int) []byte {
	out := make([]byte, n)
	for i := range out {
		out[i] = byte(d.below(256))
	}
	return out
}

// plain are n bytes without 0x7E.
func (d *dice) plain(n int) []byte {
	out := d.stuff(n)
	for i, x := range out {
		if x == 0x7E {
			out[i] = 0x7D
		}
	}
	return out
}

// full are n bytes of which many look as if a frame began there.
func (d *dice) full(n int) []byte {
	few := []byte{0x7E, 0x7E, 0, 0, 1, 2, 3, 7}
	out := make([]byte, n)
	for i := range out {
		out[i] = few[d.below(len(few))]
	}
	return out
}

// body is one that may be framed, the longest and shortest ones among them.
func (d *dice) body() []byte {
	n := []int{1, 2, 255, 256, 1 + d.below(8), 1 + d.below(256)}[d.below(6)]
	if d.below(2) == 0 {
		return d.full(n)
	}
	return d.stuff(n)
}

// broken is a frame of which something is not as it should be.
func (d *dice) broken() []byte {
	f := framed(d.body())
	switch d.below(4) {
	case 0:
		f[len(f)-1] ^= byte(1 + d.below(255))
	case 1:
		f[len(f)-2] ^= byte(1 + d.below(255))
	case 2:
		f = f[:d.below(len(f))]
	case 3:
		f[d.below(len(f))] ^= byte(1 << d.below(8))
	}
	return f
}

// stream are frames, and whatever else may stand among them.
func (d *dice) stream(pieces int) []byte {
	var out []byte
	for range pieces {
		switch d.below(8) {
		case 0:
			out = append(out, d.stuff(d.below(10))...)
		case 1:
			out = append(out, d.plain(d.below(10))...)
		case 2:
			out = append(out, d.full(d.below(10))...)
		case 3:
			out = append(out, d.broken()...)
		case 4:
			out = append(out, 0x7E, 0, byte(d.below(12)))
		default:
			out = append(out, framed(d.body())...)
		}
	}
	return out
}

// cut has bytes in pieces of at most so many each, some of them empty.
func (d *dice) cut(b []byte, most int) [][]byte {
	var out [][]byte
	for len(b) > 0 {
		n := min(d.below(most+1), len(b))
		out = append(out, b[:n])
		b = b[n:]
	}
	return out
}

// framed is a frame by the section 'Words', of however many bytes.
func framed(body []byte) []byte {
	inner := append([]byte{byte(len(body) / 256), byte(len(body) % 256)}, body...)
	sum := crc.Sum16(inner)
	return append(append([]byte{0x7E}, inner...), byte(sum/256), byte(sum%256))
}

// model is a deframer by the section 'Words': the first rule that applies, as long as one does.
type model struct{ wait []byte }

func (m *model) feed(b []byte) (bodies [][]byte, dropped int) {
	m.wait = append(bytes.Clone(m.wait), b...)
	for {
		switch body := m.body(); {
		case len(m.wait) > 0 && m.wait[0] != 0x7E,
			len(m.wait) >= 3 && (m.length() < 1 || m.length() > 256),
			m.hasAll() && !bytes.Equal(framed(body), m.wait[:m.length()+5]):
			m.wait = m.wait[1:]
			dropped++
		case m.hasAll():
			bodies = append(bodies, bytes.Clone(body))
			m.wait = m.wait[m.length()+5:]
		default:
			return bodies, dropped
		}
	}
}

func (m *model) length() int { return int(m.wait[1])*256 + int(m.wait[2]) }

func (m *model) hasAll() bool {
	return len(m.wait) >= 3 && len(m.wait) >= m.length()+5
}

func (m *model) body() []byte {
	if !m.hasAll() {
		return nil
	}
	return m.wait[3 : 3+m.length()]
}

func equalLists(a, b [][]byte) bool {
	if len(a) != len(b) {
		return false
	}
	for i := range a {
		if !bytes.Equal(a[i], b[i]) {
			return false
		}
	}
	return true
}

func mustWrap(t *testing.T, body []byte) []byte {
	t.Helper()
	f, e := Wrap(body)
	if e != api.OK {
		t.Fatalf("Wrap of %d bytes: %d", len(body), e)
	}
	return f
}

func mustFeed(t *testing.T, d *Deframer, b []byte) ([][]byte, int) {
	t.Helper()
	bodies, dropped, e := d.Feed(b)
	if e != api.OK {
		t.Fatalf("Feed of %d bytes: %d", len(b), e)
	}
	return bodies, dropped
}

// feed is one feed, and what must come of it.
type feed struct {
	b       []byte
	bodies  [][]byte
	dropped int
	wait    int
}

func mustBe(t *testing.T, d *Deframer, feeds ...feed) {
	t.Helper()
	for i, f := range feeds {
		bodies, dropped, e := d.Feed(f.b)
		if !equalLists(bodies, f.bodies) || dropped != f.dropped || e != api.OK || d.Pending() != f.wait {
			t.Errorf("feed %d, % x: % x, %d dropped, %d, %d wait; not % x, %d dropped, %d wait", i, f.b, bodies, dropped, e, d.Pending(), f.bodies, f.dropped, f.wait)
		}
	}
}

// spoil turns all bytes of a list and of its spare room, and appends to it.
func spoil(b []byte) {
	whole := b[:cap(b)]
	for i := range whole {
		whole[i] ^= 0xFF
	}
	_ = append(b, 0xAA, 0xBB, 0xCC, 0xDD, 0xEE, 0xFF)
}

// join has bytes one behind the other.
func join(parts ...[]byte) []byte { return bytes.Join(parts, nil) }

var seven = [][]byte{{7}}

// P5.1

func TestP51Examples(t *testing.T) {
	for _, none := range [][]byte{nil, {}, make([]byte, 0, 300)} {
		if f, e := Wrap(none); len(f) != 0 || e != api.ErrArg {
			t.Errorf("Wrap of no byte: % x, %d", f, e)
		}
	}
	for _, n := range []int{257, 258, 512, 65535, 65536, 65537, 70000} {
		if f, e := Wrap(make([]byte, n)); len(f) != 0 || e != api.ErrLimit {
			t.Errorf("Wrap of %d bytes: % x, %d", n, f, e)
		}
	}
	want := []byte{0x7E, 0, 1, 7, 0x8F, 0x4A}
	if f, e := Wrap([]byte{7}); !bytes.Equal(f, want) || e != api.OK {
		t.Errorf("Wrap(07): % x, %d, not % x", f, e, want)
	}
}

func TestP51FramesOfAllLengths(t *testing.T) {
	d := &dice{x: 1}
	for n := 1; n <= 256; n++ {
		body := d.stuff(n)
		f, e := Wrap(body)
		if e != api.OK || !bytes.Equal(f, framed(body)) {
			t.Fatalf("Wrap of %d bytes: % x, %d, not % x", n, f, e, framed(body))
		}
		if len(f) != n+5 || f[0] != 0x7E || int(f[1])<<8|int(f[2]) != n || !bytes.Equal(f[3:3+n], body) {
			t.Fatalf("Wrap of %d bytes: % x", n, f)
		}
		// The check stands behind what it checks if the whole of them has the check 0.
		if crc.Sum16(f[1:]) != 0 {
			t.Fatalf("Wrap of %d bytes: check % x", n, f[3+n:])
		}
	}
}

func TestP51MarksWithinABody(t *testing.T) {
	for _, n := range []int{1, 2, 3, 126, 255, 256} {
		body := bytes.Repeat([]byte{0x7E}, n)
		if f, e := Wrap(body); e != api.OK || !bytes.Equal(f, framed(body)) {
			t.Errorf("Wrap of %d marks: % x, %d", n, f, e)
		}
	}
}

// P5.2

func TestP52Examples(t *testing.T) {
	f := mustWrap(t, []byte{7})
	mustBe(t, New(),
		feed{b: f, bodies: seven},
		feed{b: []byte{0, 1}, dropped: 2},
		feed{b: []byte{0x7E, 0}, wait: 2},
		feed{b: []byte{0}, dropped: 3})
	mustBe(t, New(), feed{b: join([]byte{0x7E}, f), bodies: seven, dropped: 1})
	turned := bytes.Clone(f)
	turned[5] ^= 1
	mustBe(t, New(), feed{b: turned, dropped: 6})
}

func TestP52NewHasNoBytes(t *testing.T) {
	d := New()
	if d == nil || d.Pending() != 0 {
		t.Fatalf("New: %v, %d wait", d, d.Pending())
	}
	mustBe(t, d, feed{}, feed{b: []byte{}}, feed{b: mustWrap(t, []byte{7}), bodies: seven})
}

func TestP52NoDeframer(t *testing.T) {
	zero := &Deframer{}
	for i, d := range []*Deframer{nil, zero, new(Deframer)} {
		for _, b := range [][]byte{nil, {}, {1}, {0x7E, 0}, mustWrap(t, []byte{7})} {
			if bodies, dropped, e := d.Feed(b); len(bodies) != 0 || dropped != 0 || e != api.ErrNil {
				t.Errorf("none %d: Feed(% x) = % x, %d, %d", i, b, bodies, dropped, e)
			}
			if n := d.Pending(); n != 0 {
				t.Errorf("none %d: %d wait", i, n)
			}
		}
	}
}

func TestP52FeedsOfNothing(t *testing.T) {
	f := mustWrap(t, []byte{1, 2, 3})
	for n := range len(f) {
		d := New()
		mustBe(t, d,
			feed{b: f[:n], wait: n},
			feed{wait: n},
			feed{b: []byte{}, wait: n},
			feed{b: f[n:], bodies: [][]byte{{1, 2, 3}}},
			feed{}, feed{b: []byte{}})
	}
}

func TestP52BytesThatAreNoMark(t *testing.T) {
	for x := range 256 {
		if x == 0x7E {
			mustBe(t, New(), feed{b: []byte{byte(x)}, wait: 1})
			continue
		}
		mustBe(t, New(), feed{b: []byte{byte(x)}, dropped: 1}, feed{b: []byte{byte(x), byte(x)}, dropped: 2})
	}
}

// The three bytes that say a length: whether it may be is told as soon as they are there.
func TestP52LengthsThatMayBe(t *testing.T) {
	for n := range 1 << 16 {
		head := []byte{0x7E, byte(n >> 8), byte(n)}
		want := &model{}
		bodies, dropped := want.feed(head)
		may := n >= 1 && n <= 256
		if may != (dropped == 0) {
			t.Fatalf("the model of a length of %d: %d dropped", n, dropped)
		}
		d := New()
		mustBe(t, d,
			feed{b: head[:2], bodies: bodies, wait: 2},
			feed{b: head[2:], bodies: bodies, dropped: dropped, wait: len(want.wait)})
		if t.Failed() {
			t.Fatalf("a length of %d", n)
		}
	}
}

func TestP52LengthsAtTheEdges(t *testing.T) {
	d := &dice{x: 2}
	for _, n := range []int{0, 257} {
		f := framed(d.plain(n))
		// The check could have a mark: then something would wait.
		if bytes.Contains(f[1:], []byte{0x7E}) {
			t.Fatalf("frame of %d bytes with a mark inside", n)
		}
		mustBe(t, New(), feed{b: f, dropped: n + 5})
	}
	for _, n := range []int{1, 2, 255, 256} {
		body := d.stuff(n)
		mustBe(t, New(), feed{b: framed(body), bodies: [][]byte{body}})
	}
}

func TestP52OneByteFewer(t *testing.T) {
	d := &dice{x: 3}
	for _, n := range []int{1, 2, 17, 255, 256} {
		body := d.stuff(n)
		f := framed(body)
		mustBe(t, New(),
			feed{b: f[:n+4], wait: n + 4},
			feed{b: f[n+4:], bodies: [][]byte{body}})
	}
}

func TestP52ChecksThatAreTurned(t *testing.T) {
	d := &dice{x: 4}
	for _, n := range []int{1, 2, 100, 256} {
		body := d.plain(n)
		for place := n + 3; place < n+5; place++ {
			for turn := 1; turn < 256; turn++ {
				f := framed(body)
				f[place] ^= byte(turn)
				want := &model{}
				bodies, dropped := want.feed(f)
				if len(bodies) != 0 {
					t.Fatalf("the model: % x of % x", bodies, f)
				}
				mustBe(t, New(), feed{b: f, dropped: dropped, wait: len(want.wait)})
			}
		}
	}
}

// Each bit of a frame that is turned loses the frame: of its mark, its length, its body, its check.
func TestP52BitsThatAreTurned(t *testing.T) {
	body := []byte{1, 0x7E, 3, 4}
	f := framed(body)
	for bit := range 8 * len(f) {
		turned := bytes.Clone(f)
		turned[bit/8] ^= 1 << (bit % 8)
		want := &model{}
		bodies, dropped := want.feed(turned)
		if len(bodies) != 0 {
			t.Fatalf("bit %d: the model has % x", bit, bodies)
		}
		mustBe(t, New(), feed{b: turned, dropped: dropped, wait: len(want.wait)})
	}
}

func TestP52MarksWithin(t *testing.T) {
	for _, n := range []int{1, 2, 3, 126, 256} {
		body := bytes.Repeat([]byte{0x7E}, n)
		mustBe(t, New(), feed{b: framed(body), bodies: [][]byte{body}})
	}
	high, low := 0, 0
	for v := range 1 << 16 {
		body := []byte{byte(v >> 8), byte(v)}
		f := framed(body)
		if f[5] != 0x7E && f[6] != 0x7E {
			continue
		}
		if f[5] == 0x7E {
			high++
		}
		if f[6] == 0x7E {
			low++
		}
		mustBe(t, New(), feed{b: join(f, f), bodies: [][]byte{body, body}})
	}
	if high == 0 || low == 0 {
		t.Errorf("checks with marks: %d, %d", high, low)
	}
}

// A first byte that goes takes nothing with it: a frame that begins behind it is found.
func TestP52FramesBehindAMarkThatGoes(t *testing.T) {
	f := mustWrap(t, []byte{7})
	mustBe(t, New(), feed{b: join([]byte{0x7E, 0x7E, 0x7E}, f), bodies: seven, dropped: 3})
	// A length of 0x017E, which may not be: the frame begins at its second byte.
	mustBe(t, New(), feed{b: join([]byte{0x7E, 1}, f), bodies: seven, dropped: 2})
	mustBe(t, New(), feed{b: join([]byte{0x7E, 0, 0}, f), bodies: seven, dropped: 3})
	mustBe(t, New(), feed{b: join([]byte{0x7E, 1, 1}, f), bodies: seven, dropped: 3})
	// A length of 6, and a body that is a frame itself, with a check behind it that is none.
	mustBe(t, New(),
		feed{b: join([]byte{0x7E, 0, 6}, f), wait: 9},
		feed{b: []byte{0}, wait: 10},
		feed{b: []byte{0}, bodies: seven, dropped: 5})
	// A length of 4: the frame within goes on where the check should stand.
	mustBe(t, New(),
		feed{b: join([]byte{0x7E, 0, 4}, f[:5]), wait: 8},
		feed{b: f[5:], bodies: seven, dropped: 3})
	// A length of 0x7E: the frame begins at its second byte, and waits as long as these bytes could be a body.
	mustBe(t, New(),
		feed{b: join([]byte{0x7E, 0}, f), wait: 8},
		feed{b: make([]byte, 122), wait: 130},
		feed{b: make([]byte, 1), bodies: seven, dropped: 2 + 123})
}

func TestP52FramesWithinAFrameAreItsBody(t *testing.T) {
	inner := mustWrap(t, []byte{7})
	outer := mustWrap(t, inner)
	mustBe(t, New(), feed{b: outer, bodies: [][]byte{inner}})
	outer[len(outer)-2] ^= 0x10
	mustBe(t, New(), feed{b: outer, bodies: seven, dropped: 5})
}

func TestP52SeveralFramesInAFeed(t *testing.T) {
	d := &dice{x: 5}
	for range 50 {
		var b []byte
		var want [][]byte
		for range d.below(8) {
			want = append(want, d.body())
			b = append(b, framed(want[len(want)-1])...)
		}
		mustBe(t, New(), feed{b: b, bodies: want})
	}
}

func TestP52DeframersAreApart(t *testing.T) {
	f := mustWrap(t, []byte{7})
	a, b := New(), New()
	mustBe(t, a, feed{b: f[:3], wait: 3})
	mustBe(t, b, feed{b: f[3:], dropped: 3})
	mustBe(t, a, feed{b: f[3:], bodies: seven})
	mustBe(t, b, feed{b: f, bodies: seven})
}

func TestP52StreamsByTheFourRules(t *testing.T) {
	d := &dice{x: 6}
	for round := range 1500 {
		frames, m := New(), &model{}
		for i, b := range d.cut(d.stream(1+d.below(12)), 1+d.below(300)) {
			bodies, dropped := mustFeed(t, frames, b)
			wants, wantDropped := m.feed(b)
			if !equalLists(bodies, wants) || dropped != wantDropped || frames.Pending() != len(m.wait) {
				t.Fatalf("round %d, feed %d, % x: % x, %d dropped, %d wait; not % x, %d, %d", round, i, b, bodies, dropped, frames.Pending(), wants, wantDropped, len(m.wait))
			}
		}
	}
}

// All streams of seven bytes out of few, of which frames of one byte are made up.
func TestP52ShortStreamsByTheFourRules(t *testing.T) {
	f := mustWrap(t, []byte{7})
	few := []byte{0x7E, 0, 1, 7, f[4], f[5]}
	b := make([]byte, 7)
	found := 0
	for v := range 6 * 6 * 6 * 6 * 6 * 6 * 6 {
		for i := range b {
			b[i] = few[v%6]
			v /= 6
		}
		m := &model{}
		wants, wantDropped := m.feed(b)
		d := New()
		bodies, dropped := mustFeed(t, d, b)
		if !equalLists(bodies, wants) || dropped != wantDropped || d.Pending() != len(m.wait) {
			t.Fatalf("% x: % x, %d dropped, %d wait; not % x, %d, %d", b, bodies, dropped, d.Pending(), wants, wantDropped, len(m.wait))
		}
		found += len(bodies)
	}
	if found == 0 {
		t.Errorf("no frame in all of them")
	}
}

// P5.3

func TestP53BytesThatAreWrappedAreOnlyRead(t *testing.T) {
	d := &dice{x: 7}
	for _, n := range []int{0, 1, 2, 100, 255, 256, 257} {
		room := d.stuff(n + 40)
		before := bytes.Clone(room)
		f, _ := Wrap(room[7 : 7+n])
		kept := bytes.Clone(f)
		spoil(f)
		if !bytes.Equal(room, before) {
			t.Errorf("%d bytes are not as they were: % x, not % x", n, room, before)
		}
		again, _ := Wrap(room[7 : 7+n])
		clear(room)
		if !bytes.Equal(again, kept) {
			t.Errorf("%d bytes: % x, not % x", n, again, kept)
		}
	}
}

func TestP53FramesThatAreAnsweredAreNew(t *testing.T) {
	body := []byte{1, 2, 3}
	a, b := mustWrap(t, body), mustWrap(t, body)
	spoil(a)
	if !bytes.Equal(b, framed(body)) || !bytes.Equal(mustWrap(t, body), b) {
		t.Errorf("Wrap: % x", b)
	}
}

func TestP53BytesThatAreFedAreOnlyRead(t *testing.T) {
	d := &dice{x: 8}
	for range 300 {
		room := join(d.stuff(9), d.stream(6), d.stuff(30))
		before := bytes.Clone(room)
		frames := New()
		at := 9
		for at < len(room)-30 {
			n := min(1+d.below(100), len(room)-30-at)
			bodies, _ := mustFeed(t, frames, room[at:at+n])
			for _, b := range bodies {
				spoil(b)
			}
			at += n
		}
		if !bytes.Equal(room, before) {
			t.Fatalf("bytes are not as they were: % x, not % x", room, before)
		}
	}
}

func TestP53BytesThatWereFedMayChangeLater(t *testing.T) {
	d := &dice{x: 9}
	for round := range 300 {
		frames, m := New(), &model{}
		var told, wants [][]byte
		for _, b := range d.cut(d.stream(6), 60) {
			handed := bytes.Clone(b)
			bodies, _ := mustFeed(t, frames, handed)
			spoil(handed)
			told = append(told, bodies...)
			more, _ := m.feed(b)
			wants = append(wants, more...)
			if frames.Pending() != len(m.wait) {
				t.Fatalf("round %d: %d wait, not %d", round, frames.Pending(), len(m.wait))
			}
		}
		if !equalLists(told, wants) {
			t.Fatalf("round %d: % x, not % x", round, told, wants)
		}
	}
}

func TestP53BytesThatWaitAreKept(t *testing.T) {
	f := mustWrap(t, []byte{1, 2, 3})
	for n := 1; n < len(f); n++ {
		d := New()
		handed := make([]byte, n, n+64)
		copy(handed, f)
		mustBe(t, d, feed{b: handed, wait: n})
		spoil(handed)
		mustBe(t, d, feed{b: f[n:], bodies: [][]byte{{1, 2, 3}}})
	}
}

func TestP53WhatIsAnsweredMayChangeLater(t *testing.T) {
	d := &dice{x: 10}
	for round := range 300 {
		frames, m := New(), &model{}
		for i, b := range d.cut(d.stream(6), 200) {
			bodies, dropped := mustFeed(t, frames, b)
			wants, wantDropped := m.feed(b)
			if !equalLists(bodies, wants) || dropped != wantDropped || frames.Pending() != len(m.wait) {
				t.Fatalf("round %d, feed %d: % x, not % x", round, i, bodies, wants)
			}
			for _, b := range bodies {
				spoil(b)
			}
			clear(bodies[:cap(bodies)])
			_ = append(bodies, []byte{1})
		}
	}
}

func TestP53BodiesOfOneAnswerShareNothing(t *testing.T) {
	want := [][]byte{{1}, {2, 3}, {4, 5, 6}, bytes.Repeat([]byte{9}, 256), {7}}
	var b []byte
	for _, body := range want {
		b = append(b, framed(body)...)
	}
	rest := framed([]byte{8, 9})
	for i := range want {
		d := New()
		bodies, _ := mustFeed(t, d, join(b, rest[:5]))
		if !equalLists(bodies, want) {
			t.Fatalf("% x", bodies)
		}
		spoil(bodies[i])
		for j := range want {
			if j != i && !bytes.Equal(bodies[j], want[j]) {
				t.Errorf("body %d, behind a change of %d: % x, not % x", j, i, bodies[j], want[j])
			}
		}
		mustBe(t, d, feed{b: rest[5:], bodies: [][]byte{{8, 9}}})
	}
}

// What is kept is no more than what waits, however much was fed.
func TestP53OnlyWhatWaitsIsKept(t *testing.T) {
	long := make([]byte, 1<<20)
	long[len(long)-1] = 0x7E
	all := make([]*Deframer, 32)
	before := heap()
	for i := range all {
		all[i] = New()
		mustBe(t, all[i], feed{b: long, dropped: len(long) - 1, wait: 1})
	}
	if kept := heap() - before; kept > 8<<20 {
		t.Errorf("%d bytes are kept of %d deframers with one byte each", kept, len(all))
	}
	for _, d := range all {
		mustBe(t, d, feed{b: []byte{0, 0}, dropped: 3})
	}
}

func heap() int64 {
	runtime.GC()
	var m runtime.MemStats
	runtime.ReadMemStats(&m)
	return int64(m.HeapAlloc)
}

// P5.4

// told is what a deframer said in all.
type told struct {
	bodies  [][]byte
	dropped int
	wait    int
}

func (a told) equal(b told) bool {
	return equalLists(a.bodies, b.bodies) && a.dropped == b.dropped && a.wait == b.wait
}

func feedAll(t *testing.T, d *Deframer, pieces [][]byte) told {
	t.Helper()
	var out told
	for _, b := range pieces {
		bodies, dropped := mustFeed(t, d, b)
		out.bodies = append(out.bodies, bodies...)
		out.dropped += dropped
	}
	out.wait = d.Pending()
	return out
}

func ones(b []byte) [][]byte {
	var out [][]byte
	for i := range b {
		out = append(out, b[i:i+1])
	}
	return out
}

// fed counts the bytes that are told of, dropped, or wait.
func (a told) fed() int {
	n := a.dropped + a.wait
	for _, b := range a.bodies {
		n += len(b) + 5
	}
	return n
}

// The bytes that wait can't be seen: that they are the same is told by what comes of them with the same bytes behind them.
func TestP54HoweverBytesAreCut(t *testing.T) {
	d := &dice{x: 11}
	for round := range 400 {
		b, behind := d.stream(1+d.below(12)), d.stream(4)
		whole := New()
		want := feedAll(t, whole, [][]byte{b})
		wantBehind := feedAll(t, whole, [][]byte{behind})
		for _, pieces := range [][][]byte{ones(b), d.cut(b, 3), d.cut(b, 20), d.cut(b, 300)} {
			parts := New()
			if got := feedAll(t, parts, pieces); !got.equal(want) {
				t.Fatalf("round %d, % x in %d feeds: %+v, not %+v", round, b, len(pieces), got, want)
			}
			if got := feedAll(t, parts, [][]byte{behind}); !got.equal(wantBehind) {
				t.Fatalf("round %d, behind % x in %d feeds: %+v, not %+v", round, b, len(pieces), got, wantBehind)
			}
		}
	}
}

// All the ways in which a short stream can be cut.
func TestP54AllCuts(t *testing.T) {
	f := mustWrap(t, []byte{7})
	broken := bytes.Clone(f)
	broken[4] ^= 0x40
	for _, b := range [][]byte{
		join([]byte{0x7E, 0x7E}, f, []byte{0x7E, 0, 0}),
		join([]byte{0x7E, 0, 6}, f, []byte{1, 0x7E}),
		join(broken, f),
		join(f, f[:5]),
	} {
		want := feedAll(t, New(), [][]byte{b})
		for cuts := range 1 << (len(b) - 1) {
			var pieces [][]byte
			from := 0
			for at := 1; at < len(b); at++ {
				if cuts>>(at-1)&1 == 1 {
					pieces = append(pieces, b[from:at])
					from = at
				}
			}
			pieces = append(pieces, b[from:])
			if got := feedAll(t, New(), pieces); !got.equal(want) {
				t.Fatalf("% x cut by %b: %+v, not %+v", b, cuts, got, want)
			}
		}
	}
}

func TestP54EachByteIsSomewhere(t *testing.T) {
	d := &dice{x: 12}
	for round := range 600 {
		frames := New()
		n := 0
		var all told
		for _, b := range d.cut(d.stream(1+d.below(10)), 1+d.below(200)) {
			got := feedAll(t, frames, [][]byte{b})
			n += len(b)
			all.bodies = append(all.bodies, got.bodies...)
			all.dropped += got.dropped
			all.wait = got.wait
			if all.fed() != n {
				t.Fatalf("round %d: %d bytes fed, %d told, dropped or waiting: %+v", round, n, all.fed(), all)
			}
			if got.wait < 0 || got.wait > 260 {
				t.Fatalf("round %d: %d bytes wait", round, got.wait)
			}
		}
	}
}

func TestP54AsManyWaitAsMay(t *testing.T) {
	body := bytes.Repeat([]byte{0x7E}, api.MaxFrame)
	f := framed(body)
	d := New()
	mustBe(t, d,
		feed{b: f[:api.MaxFrame+4], wait: api.MaxFrame + 4},
		feed{wait: api.MaxFrame + 4},
		feed{b: f[api.MaxFrame+4:], bodies: [][]byte{body}})
	// One byte more that makes no frame: at least the first one goes.
	m := &model{}
	m.feed(f[:api.MaxFrame+4])
	turned := []byte{f[api.MaxFrame+4] ^ 1}
	bodies, dropped := m.feed(turned)
	mustBe(t, d,
		feed{b: f[:api.MaxFrame+4], wait: api.MaxFrame + 4},
		feed{b: turned, bodies: bodies, dropped: dropped, wait: len(m.wait)})
	if len(m.wait) > 260 || dropped == 0 {
		t.Errorf("%d dropped, %d wait", dropped, len(m.wait))
	}
}

func TestP54FramesAreToldAsTheyWere(t *testing.T) {
	d := &dice{x: 13}
	all := New()
	for round := range 60 {
		var bodies [][]byte
		var b []byte
		for n := 1 + round%4; n <= 256; n += 1 + d.below(60) {
			body := d.stuff(n)
			if d.below(3) == 0 {
				body = d.full(n)
			}
			bodies = append(bodies, body)
			b = append(b, mustWrap(t, body)...)
		}
		want := told{bodies: bodies}
		for _, pieces := range [][][]byte{{b}, ones(b), d.cut(b, 40)} {
			if got := feedAll(t, New(), pieces); !got.equal(want) {
				t.Fatalf("round %d: %d frames, not %d; %d dropped, %d wait", round, len(got.bodies), len(bodies), got.dropped, got.wait)
			}
			if got := feedAll(t, all, pieces); !got.equal(want) {
				t.Fatalf("round %d, behind others: %d frames, not %d; %d dropped, %d wait", round, len(got.bodies), len(bodies), got.dropped, got.wait)
			}
		}
	}
}

func TestP54BodiesOfAllLengthsComeBack(t *testing.T) {
	d := &dice{x: 14}
	frames := New()
	for n := 1; n <= 256; n++ {
		body := d.stuff(n)
		mustBe(t, frames, feed{b: mustWrap(t, body), bodies: [][]byte{body}})
	}
}

func TestP54BytesWithoutAMarkHideNothing(t *testing.T) {
	d := &dice{x: 15}
	frames := New()
	for n := range 300 {
		body := d.body()
		noise := d.plain(n)
		b := join(noise, mustWrap(t, body))
		want := told{bodies: [][]byte{body}, dropped: n}
		for _, pieces := range [][][]byte{{b}, {noise, b[n:]}, ones(b), d.cut(b, 7)} {
			if got := feedAll(t, frames, pieces); !got.equal(want) {
				t.Fatalf("%d bytes ahead of % x: %+v", n, body, got)
			}
		}
	}
}
