package mder

import (
	"bytes"
	"testing"

	"handbell/api"
)

// Kinds of numbers that tests read and write.
const (
	kindU8 = iota
	kindU16
	kindU32
	kindOctets
	kinds
)

// item is what was read, or is written: a number, or octets.
type item struct {
	kind int
	v    uint32
	b    []byte
}

func same(a, b item) bool {
	return a.kind == b.kind && a.v == b.v && bytes.Equal(a.b, b.b)
}

// brief is an item as a fault tells it.
func brief(x item) item {
	x.b = x.b[:min(len(x.b), 16)]
	return x
}

// read is one call of a reader's.
func read(r *Reader, kind int) (item, api.Errno) {
	switch kind {
	case kindU8:
		v, e := r.U8()
		return item{kind: kind, v: uint32(v)}, e
	case kindU16:
		v, e := r.U16()
		return item{kind: kind, v: uint32(v)}, e
	case kindU32:
		v, e := r.U32()
		return item{kind: kind, v: v}, e
	}
	b, e := r.Octets()
	return item{kind: kind, b: b}, e
}

// write is one call of a writer's.
func write(w *Writer, x item) api.Errno {
	switch x.kind {
	case kindU8:
		return w.U8(int(x.v))
	case kindU16:
		return w.U16(int(x.v))
	case kindU32:
		return w.U32(x.v)
	}
	return w.Octets(x.b)
}

func mustWrite(t *testing.T, w *Writer, items []item) {
	t.Helper()
	for i, x := range items {
		if e := write(w, x); e != api.OK {
			t.Fatalf("item %d, %+v: %d", i, brief(x), e)
		}
	}
}

// dice are numbers without an order to be seen, the same ones for the same seed.
type dice struct{ x uint64 }

func (d *dice) below(n int) int {
	d.x = d.x*6364136223846793005 + 1442695040888963407
	return int(d.x >> 33 % uint64(n))
}

func (d *dice) stuff(n int) []byte {
	out := make([]byte, n)
	for i := range out {
		out[i] = byte(d.below(256))
	}
	return out
}

// items are n of all kinds, edges among them.
func (d *dice) items(n int) []item {
	out := make([]item, n)
	for i := range out {
		out[i] = d.item()
	}
	return out
}

func (d *dice) item() item {
	edge := d.below(4)
	switch kind := d.below(kinds); kind {
	case kindU8:
		return item{kind: kind, v: []uint32{0, 255, uint32(d.below(256)), uint32(d.below(256))}[edge]}
	case kindU16:
		return item{kind: kind, v: []uint32{0, 65535, uint32(d.below(65536)), uint32(d.below(256))}[edge]}
	case kindU32:
		return item{kind: kind, v: []uint32{0, 4294967295, uint32(d.below(1 << 31)), uint32(d.below(1<<16)) << 16}[edge]}
	}
	return item{kind: kindOctets, b: d.stuff([]int{0, 1, d.below(20), d.below(300)}[edge])}
}

// P4.4

func TestP44BytesOfAReaderAreOnlyRead(t *testing.T) {
	d := &dice{x: 1}
	for n := range 40 {
		room := d.stuff(n + 20)
		room[7], room[8] = 0, 3
		before := bytes.Clone(room)
		r := New(room[7 : 7+n])
		for range 10 {
			for kind := range kinds {
				x, _ := read(r, kind)
				spoil(x.b)
			}
		}
		if !bytes.Equal(room, before) {
			t.Fatalf("%d bytes are not as they were: % x, not % x", n, room, before)
		}
	}
}

func TestP44BytesOfAReaderMayChangeLater(t *testing.T) {
	handed := []byte{1, 2, 3, 0, 2, 10, 11, 4, 5, 6, 7}
	r := New(handed)
	clear(handed)
	if v, e := r.U8(); v != 1 || e != api.OK {
		t.Errorf("U8: %d, %d", v, e)
	}
	copy(handed, bytes.Repeat([]byte{0xEE}, len(handed)))
	if v, e := r.U16(); v != 0x0203 || e != api.OK {
		t.Errorf("U16: %#x, %d", v, e)
	}
	if b, e := r.Octets(); !bytes.Equal(b, []byte{10, 11}) || e != api.OK {
		t.Errorf("Octets: % x, %d", b, e)
	}
	clear(handed)
	if v, e := r.U32(); v != 0x04050607 || e != api.OK {
		t.Errorf("U32: %#x, %d", v, e)
	}
}

// spoil changes all of a list, and its spare room, too, as an append to it would.
func spoil(b []byte) {
	whole := b[:cap(b)]
	for i := range whole {
		whole[i] ^= 0xFF
	}
	_ = append(b, 0xAA, 0xBB, 0xCC, 0xDD, 0xEE, 0xFF)
}

func TestP44OctetsOfAReaderAreNew(t *testing.T) {
	bytesOf := []byte{0, 2, 1, 2, 0, 0, 0, 3, 3, 4, 5, 0, 1, 6, 9}
	wants := [][]byte{{1, 2}, {}, {3, 4, 5}, {6}}
	r := New(bytesOf)
	for i, want := range wants {
		b, e := r.Octets()
		if !bytes.Equal(b, want) || e != api.OK {
			t.Errorf("octets %d: % x, %d; not % x", i, b, e, want)
		}
		spoil(b)
	}
	if v, e := r.U8(); v != 9 || e != api.OK {
		t.Errorf("U8 behind them: %d, %d", v, e)
	}
	r = New(bytesOf)
	var all [][]byte
	for range wants {
		b, _ := r.Octets()
		all = append(all, b)
	}
	spoil(all[0])
	spoil(all[1])
	if !bytes.Equal(all[2], wants[2]) || !bytes.Equal(all[3], wants[3]) {
		t.Errorf("octets changed with others: % x, % x", all[2], all[3])
	}
}

func TestP44ReadersAreApart(t *testing.T) {
	handed := []byte{1, 0, 1, 7}
	one, two := New(handed), New(handed)
	one.U8()
	b, _ := one.Octets()
	spoil(b)
	if one.Left() != 0 || two.Left() != 4 {
		t.Errorf("Left: %d and %d", one.Left(), two.Left())
	}
	two.U8()
	if b, e := two.Octets(); !bytes.Equal(b, []byte{7}) || e != api.OK {
		t.Errorf("Octets: % x, %d", b, e)
	}
}

func TestP44BytesOfAWriterAreOnlyRead(t *testing.T) {
	d := &dice{x: 2}
	w := Write()
	for n := range 40 {
		room := d.stuff(n + 20)
		before := bytes.Clone(room)
		w.Octets(room[7 : 7+n])
		w.U32(0xEEEEEEEE)
		w.Octets(room[7 : 7+n])
		if !bytes.Equal(room, before) {
			t.Fatalf("%d bytes are not as they were: % x, not % x", n, room, before)
		}
	}
}

func TestP44BytesOfAWriterMayChangeLater(t *testing.T) {
	w := Write()
	first := make([]byte, 3, 50)
	copy(first, []byte{1, 2, 3})
	w.Octets(first)
	spoil(first)
	second := []byte{4, 5}
	w.Octets(second)
	clear(second)
	spoil(first)
	if got, want := w.Bytes(), []byte{0, 3, 1, 2, 3, 0, 2, 4, 5}; !bytes.Equal(got, want) {
		t.Errorf("Bytes: % x, not % x", got, want)
	}
}

func TestP44BytesAreNew(t *testing.T) {
	d := &dice{x: 3}
	w := Write()
	var want []byte
	var kept, copies [][]byte
	for i := range 200 {
		got := w.Bytes()
		if !bytes.Equal(got, want) {
			t.Fatalf("Bytes behind %d calls: % x, not % x", i, got, want)
		}
		spoil(got)
		kept = append(kept, w.Bytes())
		copies = append(copies, bytes.Clone(want))
		v := d.below(256)
		w.U8(v)
		want = append(want, byte(v))
	}
	for i := range kept {
		if !bytes.Equal(kept[i], copies[i]) {
			t.Fatalf("what was answered behind %d calls has changed: % x, not % x", i, kept[i], copies[i])
		}
	}
}

func TestP44WritersAreApart(t *testing.T) {
	one, two := Write(), Write()
	one.U8(1)
	two.U8(2)
	one.U8(3)
	if a, b := one.Bytes(), two.Bytes(); !bytes.Equal(a, []byte{1, 3}) || !bytes.Equal(b, []byte{2}) {
		t.Errorf("Bytes: % x and % x", a, b)
	}
}

// P4.5

func readsAsWritten(t *testing.T, items []item, b []byte) {
	t.Helper()
	r := New(b)
	for i, want := range items {
		got, e := read(r, want.kind)
		if !same(got, want) || e != api.OK {
			t.Fatalf("item %d: %+v, %d; not %+v", i, brief(got), e, brief(want))
		}
	}
	if r.Left() != 0 {
		t.Errorf("%d bytes are left of %d items", r.Left(), len(items))
	}
}

func TestP45WhatWasWrittenIsReadSo(t *testing.T) {
	d := &dice{x: 4}
	for n := range 60 {
		for range 10 {
			w := Write()
			items := d.items(n)
			mustWrite(t, w, items)
			readsAsWritten(t, items, w.Bytes())
		}
	}
}

func TestP45EdgesAreReadAsWritten(t *testing.T) {
	d := &dice{x: 5}
	items := []item{
		{kind: kindU8, v: 0}, {kind: kindU8, v: 255}, {kind: kindU16, v: 0}, {kind: kindU16, v: 65535}, {kind: kindU32, v: 0}, {kind: kindU32, v: 4294967295},
		{kind: kindOctets}, {kind: kindOctets, b: []byte{}}, {kind: kindOctets, b: d.stuff(65535)}, {kind: kindOctets, b: d.stuff(65534)},
	}
	for i := range items {
		w := Write()
		mustWrite(t, w, items[i:i+1])
		readsAsWritten(t, items[i:i+1], w.Bytes())
	}
	w := Write()
	mustWrite(t, w, items)
	readsAsWritten(t, items, w.Bytes())
	readsAsWritten(t, nil, Write().Bytes())
}

// TestP45EveryShortNumber goes through all numbers of one and of two bytes, and every byte and bit of those of four.
func TestP45EveryShortNumber(t *testing.T) {
	var items []item
	for v := range uint32(256) {
		items = append(items, item{kind: kindU8, v: v})
		for place := range 4 {
			items = append(items, item{kind: kindU32, v: v << (8 * place)}, item{kind: kindU32, v: ^(v << (8 * place))})
		}
	}
	for v := range uint32(65536) {
		items = append(items, item{kind: kindU16, v: v})
	}
	w := Write()
	mustWrite(t, w, items)
	readsAsWritten(t, items, w.Bytes())
}

// TestP45RefusedCallsLeaveNothing writes what may not be written between the others.
func TestP45RefusedCallsLeaveNothing(t *testing.T) {
	d := &dice{x: 6}
	long := d.stuff(65536)
	for n := range 40 {
		w := Write()
		items := d.items(n)
		for _, x := range items {
			w.U8(256 + d.below(1000))
			mustWrite(t, w, []item{x})
			w.U16(-1 - d.below(1000))
			w.Octets(long)
		}
		readsAsWritten(t, items, w.Bytes())
	}
}

// TestP45WhatWasReadIsWrittenAgain reads bytes of many lengths, by all kinds of calls, those that fail among them, till nothing is left.
func TestP45WhatWasReadIsWrittenAgain(t *testing.T) {
	d := &dice{x: 7}
	for n := range 200 {
		for range 5 {
			b := d.stuff(n)
			for i := range b {
				if d.below(3) == 0 {
					b[i] = 0 // octets of few bytes
				}
			}
			r, w := New(b), Write()
			for range 40 * n { // a reader that never comes to its end must not hold up the test
				if x, e := read(r, d.below(kinds)); e == api.OK {
					mustWrite(t, w, []item{x})
				}
			}
			if got := w.Bytes(); !bytes.Equal(got, b) || r.Left() != 0 {
				t.Fatalf("read and written again: % x with %d left, not % x", got, r.Left(), b)
			}
		}
	}
}
