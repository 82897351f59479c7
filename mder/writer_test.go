package mder

import (
	"bytes"
	"math"
	"testing"

	"handbell/api"
)

// inWords are an item's bytes in the chapter's words: highest first, by quotients and remainders.
func inWords(x item) []byte {
	v := uint64(x.v)
	switch x.kind {
	case kindU8:
		return []byte{byte(v)}
	case kindU16:
		return []byte{byte(v / 256), byte(v % 256)}
	case kindU32:
		return []byte{byte(v / 16777216), byte(v / 65536 % 256), byte(v / 256 % 256), byte(v % 256)}
	}
	return append([]byte{byte(len(x.b) / 256), byte(len(x.b) % 256)}, x.b...)
}

func has(t *testing.T, w *Writer, want []byte) {
	t.Helper()
	if got := w.Bytes(); !bytes.Equal(got, want) {
		t.Fatalf("%d bytes % x, not %d bytes % x", len(got), got[:min(len(got), 40)], len(want), want[:min(len(want), 40)])
	}
}

func answers(t *testing.T, got, want api.Errno) {
	t.Helper()
	if got != want {
		t.Errorf("%d, not %d", got, want)
	}
}

// P4.3

func TestP43Examples(t *testing.T) {
	w := Write()
	answers(t, w.U8(255), api.OK)
	answers(t, w.U8(256), api.ErrArg)
	answers(t, w.U16(-1), api.ErrArg)
	answers(t, w.U16(258), api.OK)
	answers(t, w.Octets([]byte{7}), api.OK)
	has(t, w, []byte{0xFF, 1, 2, 0, 1, 7})
}

func TestP43IsTheWords(t *testing.T) {
	d := &dice{x: 21}
	for n := range 60 {
		for range 5 {
			w := Write()
			var want []byte
			for _, x := range d.items(n) {
				answers(t, write(w, x), api.OK)
				want = append(want, inWords(x)...)
			}
			has(t, w, want)
		}
	}
}

func TestP43HasNothingAtFirst(t *testing.T) {
	w := Write()
	has(t, w, nil)
	has(t, w, nil)
	answers(t, w.U8(0), api.OK)
	has(t, w, []byte{0})
	has(t, Write(), nil)
}

func TestP43NoWriter(t *testing.T) {
	for _, w := range []*Writer{nil, {}, new(Writer)} {
		for range 2 {
			answers(t, w.U8(1), api.ErrNil)
			answers(t, w.U8(-1), api.ErrNil)
			answers(t, w.U8(256), api.ErrNil)
			answers(t, w.U16(1), api.ErrNil)
			answers(t, w.U16(-1), api.ErrNil)
			answers(t, w.U16(65536), api.ErrNil)
			answers(t, w.U32(1), api.ErrNil)
			answers(t, w.Octets(nil), api.ErrNil)
			answers(t, w.Octets([]byte{1}), api.ErrNil)
			answers(t, w.Octets(make([]byte, 65536)), api.ErrNil)
			has(t, w, nil)
		}
	}
}

func TestP43EdgesOfNumbers(t *testing.T) {
	w := Write()
	answers(t, w.U8(0), api.OK)
	answers(t, w.U8(255), api.OK)
	has(t, w, []byte{0, 0xFF})
	w = Write()
	answers(t, w.U16(0), api.OK)
	answers(t, w.U16(65535), api.OK)
	has(t, w, []byte{0, 0, 0xFF, 0xFF})
	w = Write()
	answers(t, w.U32(0), api.OK)
	answers(t, w.U32(4294967295), api.OK)
	answers(t, w.U32(1<<31), api.OK)
	has(t, w, []byte{0, 0, 0, 0, 0xFF, 0xFF, 0xFF, 0xFF, 0x80, 0, 0, 0})
}

// TestP43NumbersThatMayNotBe has ones whose low bits would be well, too.
func TestP43NumbersThatMayNotBe(t *testing.T) {
	w := Write()
	answers(t, w.U8(9), api.OK)
	for _, v := range []int{-1, -2, -255, -256, 256, 257, 511, 512, 65535, 65536, 1 << 30, math.MinInt32, math.MaxInt32, math.MinInt, math.MinInt + 1, math.MaxInt} {
		answers(t, w.U8(v), api.ErrArg)
		has(t, w, []byte{9})
	}
	for _, v := range []int{-1, -2, -65535, -65536, 65536, 65537, 131071, 131072, 1 << 30, math.MinInt32, math.MaxInt32, math.MinInt, math.MinInt + 1, math.MaxInt} {
		answers(t, w.U16(v), api.ErrArg)
		has(t, w, []byte{9})
	}
	answers(t, w.U16(0x0102), api.OK)
	has(t, w, []byte{9, 1, 2})
}

func TestP43OctetsOfEveryLength(t *testing.T) {
	d := &dice{x: 22}
	for _, n := range []int{0, 1, 2, 255, 256, 257, 4096, 65279, 65280, 65534, 65535} {
		b := d.stuff(n)
		w := Write()
		answers(t, w.U8(3), api.OK)
		answers(t, w.Octets(b), api.OK)
		answers(t, w.U8(4), api.OK)
		has(t, w, append(append([]byte{3, byte(n / 256), byte(n % 256)}, b...), 4))
	}
	w := Write()
	answers(t, w.Octets(nil), api.OK)
	answers(t, w.Octets([]byte{}), api.OK)
	has(t, w, []byte{0, 0, 0, 0})
}

func TestP43TooManyOctets(t *testing.T) {
	w := Write()
	for _, n := range []int{65536, 65537, 65536 + 255, 131072, 1 << 20} {
		answers(t, w.Octets(make([]byte, n)), api.ErrLimit)
		has(t, w, nil)
	}
	answers(t, w.U8(5), api.OK)
	answers(t, w.Octets(make([]byte, 65536)), api.ErrLimit)
	has(t, w, []byte{5})
	answers(t, w.Octets([]byte{6}), api.OK)
	has(t, w, []byte{5, 0, 1, 6})
}

func TestP43GoesOnBehindBytes(t *testing.T) {
	d := &dice{x: 23}
	w := Write()
	var want []byte
	for _, x := range d.items(300) {
		answers(t, write(w, x), api.OK)
		want = append(want, inWords(x)...)
		has(t, w, want)
		has(t, w, want)
	}
}
