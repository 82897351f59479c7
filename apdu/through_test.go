package apdu

import (
	"bytes"
	"testing"

	"handbell/api"
)

// roomy has the lists of a message with spare room behind them, that has something in it.
func roomy(a api.Apdu) api.Apdu {
	a.System = append(append(make([]byte, 0, 20), a.System...), 1, 2, 3)[:len(a.System)]
	a.Objects = append(append(make([]api.Object, 0, 20), a.Objects...), api.Object{Handle: 77})[:len(a.Objects)]
	a.Obs = append(append(make([]api.Obs, 0, 80), a.Obs...), api.Obs{Handle: 77})[:len(a.Obs)]
	return a
}

// whole has the lists of a message up to the end of their room.
func whole(a api.Apdu) api.Apdu {
	a.System, a.Objects, a.Obs = a.System[:cap(a.System)], a.Objects[:cap(a.Objects)], a.Obs[:cap(a.Obs)]
	return a
}

// flip changes all that a message's lists have, their spare room too.
func flip(a api.Apdu) {
	a = whole(a)
	for i := range a.System {
		a.System[i] ^= 0xFF
	}
	for i := range a.Objects {
		a.Objects[i] = api.Object{Handle: ^a.Objects[i].Handle, Unit: 9, Long: !a.Objects[i].Long}
	}
	for i := range a.Obs {
		a.Obs[i] = api.Obs{Handle: ^a.Obs[i].Handle, Bits: ^a.Obs[i].Bits, Long: !a.Obs[i].Long}
	}
}

func flipBytes(b []byte) {
	for i := range b[:cap(b)] {
		b[:cap(b)][i] ^= 0xFF
	}
}

func TestP63PackOnlyReads(t *testing.T) {
	d := &dice{8}
	for range 2000 {
		a := d.spoilt()
		if d.below(2) == 0 {
			a = roomy(a)
		}
		was := copyOf(whole(a))
		b, e := Pack(a)
		if !same(whole(a), was) {
			t.Fatalf("Pack changed what was handed in: %+v", a)
		}
		want, wantE := modelPack(a)
		flip(a)
		if !bytes.Equal(b, want) || e != wantE {
			t.Fatalf("what was packed hangs on the message later on: % x", b)
		}
	}
}

func TestP63PackedIsNew(t *testing.T) {
	for _, w := range writtenOut() {
		a := roomy(w.a)
		was := copyOf(whole(a))
		b, _ := Pack(a)
		again, _ := Pack(a)
		flipBytes(b)
		b = append(b, 1, 2, 3)
		if !same(whole(a), was) {
			t.Errorf("%s: what was answered is of what was handed in", w.name)
		}
		if !bytes.Equal(again, w.b) {
			t.Errorf("%s: two answers are of one memory", w.name)
		}
		wantPack(t, a, w.b, api.OK)
	}
}

func TestP63UnpackOnlyReads(t *testing.T) {
	d := &dice{9}
	for range 2000 {
		b := append(append(make([]byte, 0, 1000), d.spoil(d.message())...), 1, 2, 3)
		b = b[:len(b)-3]
		was := bytes.Clone(b[:cap(b)])
		a, e := Unpack(b)
		if !bytes.Equal(b[:cap(b)], was) {
			t.Fatalf("Unpack changed what was handed in: % x", b)
		}
		want, wantE := modelUnpack(b)
		flipBytes(b)
		if !same(a, want) || e != wantE {
			t.Fatalf("what was unpacked hangs on the bytes later on: %+v", a)
		}
	}
}

func TestP63UnpackedIsNew(t *testing.T) {
	for _, w := range writtenOut() {
		b := append(append(make([]byte, 0, 100), w.b...), 1, 2, 3)
		b = b[:len(b)-3]
		was := bytes.Clone(b[:cap(b)])
		a, _ := Unpack(b)
		again, _ := Unpack(b)
		flip(a)
		a.System, a.Objects, a.Obs = append(a.System, 9), append(a.Objects, api.Object{}), append(a.Obs, api.Obs{})
		if !bytes.Equal(b[:cap(b)], was) {
			t.Errorf("%s: what was answered is of what was handed in", w.name)
		}
		if !same(again, w.a) {
			t.Errorf("%s: two answers are of one memory", w.name)
		}
		wantUnpack(t, b, w.a, api.OK)
	}
}

func TestP64ThereAndBack(t *testing.T) {
	d := &dice{10}
	for range 5000 {
		a := d.message()
		b, e := Pack(a)
		if e != api.OK {
			t.Fatalf("Pack(%+v): %d", a, e)
		}
		wantUnpack(t, b, a, api.OK)
	}
}

func TestP64OneWayToSayIt(t *testing.T) {
	d := &dice{11}
	well := 0
	for range 20000 {
		b := d.spoil(d.message())
		a, e := Unpack(b)
		if e != api.OK {
			continue
		}
		well++
		wantPack(t, a, b, api.OK)
	}
	if well < 2000 {
		t.Errorf("only %d were messages", well)
	}
}

func TestP64CutAnywhere(t *testing.T) {
	d := &dice{12}
	for i := range 300 {
		b := bytesOf(d.message())
		if i < len(writtenOut()) {
			b = writtenOut()[i].b
		}
		for n := range b {
			refused(t, b[:n], api.ErrTrunc)
		}
	}
}

func TestP64AnythingBehind(t *testing.T) {
	d := &dice{13}
	for i := range 300 {
		b := bytesOf(d.message())
		if i < len(writtenOut()) {
			b = writtenOut()[i].b
		}
		for v := range 256 {
			refused(t, append(bytes.Clone(b), byte(v)), api.ErrSyntax)
		}
		refused(t, append(bytes.Clone(b), b...), api.ErrSyntax)
		refused(t, append(bytes.Clone(b), d.stuff(1+d.below(300))...), api.ErrSyntax)
	}
}
