package mder

import (
	"bytes"
	"testing"

	"handbell/api"
)

// words is a reader in the chapter's words: it counts places, and reckons with 256s.
type words struct {
	b  []byte
	at int
}

func (m *words) left() int { return len(m.b) - m.at }

func (m *words) number(size int) (uint32, api.Errno) {
	if m.left() < size {
		return 0, api.ErrTrunc
	}
	v := uint32(0)
	for range size {
		v = v*256 + uint32(m.b[m.at])
		m.at++
	}
	return v, api.OK
}

func (m *words) octets() ([]byte, api.Errno) {
	if m.left() < 2 {
		return nil, api.ErrTrunc
	}
	n := 256*int(m.b[m.at]) + int(m.b[m.at+1])
	if m.left()-2 < n {
		return nil, api.ErrTrunc
	}
	m.at += 2 + n
	return m.b[m.at-n : m.at], api.OK
}

func (m *words) read(kind int) (item, api.Errno) {
	if kind == kindOctets {
		b, e := m.octets()
		return item{kind: kind, b: b}, e
	}
	v, e := m.number([]int{1, 2, 4}[kind])
	return item{kind: kind, v: v}, e
}

// reads holds one call, and what is left behind it, against what is wanted.
func reads(t *testing.T, r *Reader, want item, wantErr api.Errno, left int) {
	t.Helper()
	got, e := read(r, want.kind)
	if !same(got, want) || e != wantErr {
		t.Errorf("%+v, %d; not %+v, %d", brief(got), e, brief(want), wantErr)
	}
	if r.Left() != left {
		t.Errorf("%d are left behind %+v, not %d", r.Left(), brief(want), left)
	}
}

func truncated(t *testing.T, r *Reader, kind int) {
	t.Helper()
	reads(t, r, item{kind: kind}, api.ErrTrunc, r.Left())
}

// P4.1

func TestP41ReadsFromTheBeginning(t *testing.T) {
	d := &dice{x: 11}
	for n := range 300 {
		b := d.stuff(n)
		r := New(b)
		if r.Left() != n {
			t.Fatalf("Left of %d bytes: %d", n, r.Left())
		}
		for i, x := range b {
			reads(t, r, item{kind: kindU8, v: uint32(x)}, api.OK, n-1-i)
		}
		truncated(t, r, kindU8)
	}
}

func TestP41SpareRoomIsNotRead(t *testing.T) {
	room := []byte{1, 0, 1, 9, 9, 9, 9, 9}
	r := New(room[:3])
	reads(t, r, item{kind: kindU8, v: 1}, api.OK, 2)
	truncated(t, r, kindOctets)
	truncated(t, r, kindU32)
	reads(t, r, item{kind: kindU16, v: 1}, api.OK, 0)
	truncated(t, r, kindU8)
}

func TestP41NoBytes(t *testing.T) {
	for _, b := range [][]byte{nil, {}, make([]byte, 0, 8)} {
		r := New(b)
		if r.Left() != 0 {
			t.Errorf("Left of no bytes: %d", r.Left())
		}
		for range 2 {
			for kind := range kinds {
				truncated(t, r, kind)
			}
		}
	}
}

func TestP41NoReader(t *testing.T) {
	for _, r := range []*Reader{nil, {}, new(Reader)} {
		for range 2 {
			for kind := range kinds {
				reads(t, r, item{kind: kind}, api.ErrNil, 0)
			}
		}
	}
}

// P4.2

func TestP42Examples(t *testing.T) {
	r := New([]byte{1, 2, 3, 4, 5, 6, 7, 8})
	reads(t, r, item{kind: kindU8, v: 1}, api.OK, 7)
	reads(t, r, item{kind: kindU16, v: 0x0203}, api.OK, 5)
	reads(t, r, item{kind: kindU32, v: 0x04050607}, api.OK, 1)
	reads(t, r, item{kind: kindU16}, api.ErrTrunc, 1)
	r = New([]byte{0, 2, 10, 11, 0, 1})
	reads(t, r, item{kind: kindOctets, b: []byte{10, 11}}, api.OK, 2)
	reads(t, r, item{kind: kindOctets}, api.ErrTrunc, 2)
	reads(t, r, item{kind: kindU16, v: 1}, api.OK, 0)
}

// TestP42IsTheWords makes calls of all kinds, in any order, over bytes of many lengths.
func TestP42IsTheWords(t *testing.T) {
	d := &dice{x: 12}
	for n := range 300 {
		for range 5 {
			b := d.stuff(n)
			for i := range b {
				if d.below(2) == 0 {
					b[i] = 0 // octets of few bytes
				}
			}
			r, m := New(b), &words{b: b}
			for range n + 4 {
				want, e := m.read(d.below(kinds))
				reads(t, r, want, e, m.left())
			}
		}
	}
}

// TestP42ExactlyEnoughAndOneFewer has other bytes ahead, so that it isn't their whole number that counts.
func TestP42ExactlyEnoughAndOneFewer(t *testing.T) {
	full := [][]byte{kindU8: {0xFE}, kindU16: {0xFE, 0xDC}, kindU32: {0xFE, 0xDC, 0xBA, 0x98}, kindOctets: {0, 4, 1, 2, 3, 4}}
	wants := []item{{kindU8, 0xFE, nil}, {kindU16, 0xFEDC, nil}, {kindU32, 0xFEDCBA98, nil}, {kindOctets, 0, []byte{1, 2, 3, 4}}}
	for kind, b := range full {
		for ahead := range 6 {
			r := New(append(make([]byte, ahead), b...))
			skip(r, ahead)
			reads(t, r, wants[kind], api.OK, 0)
			for fewer := range b {
				r := New(append(make([]byte, ahead), b[:fewer]...))
				skip(r, ahead)
				truncated(t, r, kind)
				truncated(t, r, kind)
				readsOneByOne(t, r, b[:fewer])
			}
		}
	}
}

func skip(r *Reader, n int) {
	for range n {
		r.U8()
	}
}

// readsOneByOne is so of a reader of which a call that failed has read nothing.
func readsOneByOne(t *testing.T, r *Reader, b []byte) {
	t.Helper()
	for i, x := range b {
		reads(t, r, item{kind: kindU8, v: uint32(x)}, api.OK, len(b)-1-i)
	}
}

func octetsOf(n int, b []byte) []byte {
	return append([]byte{byte(n / 256), byte(n % 256)}, b...)
}

func TestP42OctetsOfEveryLength(t *testing.T) {
	d := &dice{x: 13}
	lengths := []int{0, 1, 2, 3, 254, 255, 256, 257, 511, 512, 4096, 65279, 65280, 65534, 65535}
	for _, n := range lengths {
		b := d.stuff(n)
		reads(t, New(octetsOf(n, b)), item{kind: kindOctets, b: b}, api.OK, 0)
		reads(t, New(append(octetsOf(n, b), 1, 2)), item{kind: kindOctets, b: b}, api.OK, 2)
		if n < 65535 {
			oneTooMany(t, octetsOf(n+1, b), n)
		}
	}
}

// oneTooMany has octets that say one more than is left: the number, too, is still to be read.
func oneTooMany(t *testing.T, b []byte, n int) {
	t.Helper()
	r := New(b)
	truncated(t, r, kindOctets)
	reads(t, r, item{kind: kindU16, v: uint32(n + 1)}, api.OK, n)
}

func TestP42OctetsThatSayTooMuch(t *testing.T) {
	for _, n := range []int{5, 255, 256, 32767, 32768, 65535} {
		r := New(octetsOf(n, []byte{1, 2, 3, 4}))
		truncated(t, r, kindOctets)
		truncated(t, r, kindOctets)
		reads(t, r, item{kind: kindU16, v: uint32(n)}, api.OK, 4)
		reads(t, r, item{kind: kindU32, v: 0x01020304}, api.OK, 0)
	}
}

func TestP42OctetsOfNone(t *testing.T) {
	r := New([]byte{0, 0, 0, 0, 5})
	reads(t, r, item{kind: kindOctets}, api.OK, 3)
	reads(t, r, item{kind: kindOctets}, api.OK, 1)
	truncated(t, r, kindOctets)
	reads(t, r, item{kind: kindU8, v: 5}, api.OK, 0)
}

func TestP42EdgesOfNumbers(t *testing.T) {
	nought, full := make([]byte, 4), bytes.Repeat([]byte{0xFF}, 4)
	for _, x := range []struct{ kind, size int }{{kindU8, 1}, {kindU16, 2}, {kindU32, 4}} {
		reads(t, New(nought[:x.size]), item{kind: x.kind}, api.OK, 0)
		reads(t, New(full[:x.size]), item{kind: x.kind, v: uint32(1<<(8*x.size) - 1)}, api.OK, 0)
	}
	reads(t, New([]byte{0x80, 0, 0, 0}), item{kind: kindU32, v: 1 << 31}, api.OK, 0)
	reads(t, New([]byte{0x80, 0}), item{kind: kindU16, v: 1 << 15}, api.OK, 0)
	if v, e := New(full).U16(); v != 65535 || e != api.OK {
		t.Errorf("U16 of ff ff: %d, %d", v, e)
	}
}

func TestP42LeftChangesNothing(t *testing.T) {
	r := New([]byte{1, 2})
	for range 3 {
		if r.Left() != 2 {
			t.Errorf("Left: %d", r.Left())
		}
	}
	reads(t, r, item{kind: kindU16, v: 0x0102}, api.OK, 0)
}
