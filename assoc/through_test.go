package assoc

import (
	"bytes"
	"slices"
	"testing"

	"handbell/api"
)

// roomy has the lists of a message with spare room behind them, that has something in it.
func roomy(a api.Apdu) api.Apdu {
	a.System = append(append(make([]byte, 0, 20), a.System...), 1, 2, 3)[:len(a.System)]
	a.Objects = append(append(make([]api.Object, 0, 20), a.Objects...), api.Object{Handle: 77})[:len(a.Objects)]
	a.Obs = append(append(make([]api.Obs, 0, 80), a.Obs...), api.Obs{Handle: 77})[:len(a.Obs)]
	return a
}

// whole has the lists of a message up to the end of their room.
func whole(a api.Apdu) api.Apdu {
	a.System, a.Objects, a.Obs = a.System[:cap(a.System)], a.Objects[:cap(a.Objects)], a.Obs[:cap(a.Obs)]
	return a
}

func copyOf(a api.Apdu) api.Apdu {
	a.System, a.Objects, a.Obs = bytes.Clone(a.System), slices.Clone(a.Objects), slices.Clone(a.Obs)
	return a
}

// spoil changes all that a message's lists have, their spare room too.
func spoil(a api.Apdu) {
	a = whole(a)
	for i := range a.System {
		a.System[i] ^= 0xFF
	}
	spoilObjects(a.Objects)
	for i := range a.Obs {
		a.Obs[i] = api.Obs{Handle: ^a.Obs[i].Handle, Bits: ^a.Obs[i].Bits, Long: !a.Obs[i].Long}
	}
}

func spoilObjects(all []api.Object) {
	all = all[:cap(all)]
	for i, o := range all {
		all[i] = api.Object{Handle: ^o.Handle, Unit: 9, Long: !o.Long}
	}
}

// spoilReply changes all that was answered, and appends to it.
func spoilReply(r reply) {
	for i, a := range r.answers {
		spoil(a)
		r.answers[i] = api.Apdu{Kind: 1, Objects: append(a.Objects, api.Object{}), Obs: append(a.Obs, api.Obs{}), System: append(a.System, 1)}
	}
	samples := r.samples[:cap(r.samples)]
	for i := range samples {
		samples[i] = api.Sample{Handle: 99, Value: api.Real{Kind: 9}}
	}
	_ = append(r.answers, api.Apdu{Kind: 2})
	_ = append(r.samples, api.Sample{Handle: 98})
}

func TestP73HandleOnlyReads(t *testing.T) {
	for seed := range 100 {
		d := &dice{uint64(1000 + seed)}
		m := New()
		for range 60 {
			a := roomy(d.message(m))
			was := copyOf(whole(a))
			m.Handle(a)
			if !same(whole(a), was) {
				t.Fatalf("Handle changed what was handed in: %+v", a)
			}
		}
	}
}

func TestP73WhatWasHandedInIsNotKept(t *testing.T) {
	has := append(make([]api.Object, 0, 20), itsObjects()...)
	m := inState(t, 1)
	m.Handle(config(itsConfig, has...))
	spoilObjects(has)
	stands(t, m, 2, itsObjects())
	want(t, m, scan(api.Obs{Handle: 7}, api.Obs{Handle: 1, Long: true}), told(api.Sample{Handle: 7}, api.Sample{Handle: 1}), 2, itsObjects())
	want(t, m, scan(api.Obs{Handle: ^7 & 0xFFFF}), scanRefused(), 2, itsObjects())

	obs := []api.Obs{{Handle: 7, Bits: 3}}
	r := handle(m, scan(obs...))
	obs[0] = api.Obs{Handle: 1, Bits: 4}
	if !r.is(told(api.Sample{Handle: 7, Value: api.Real{Mantissa: 3}})) {
		t.Errorf("what was answered hangs on what was handed in: %+v", r)
	}
}

func TestP73ObjectsAreNew(t *testing.T) {
	m := inState(t, 2)
	first, second := m.Objects(), m.Objects()
	spoilObjects(first)
	_ = append(first[:1], api.Object{Handle: 5}, api.Object{Handle: 6}, api.Object{Handle: 8})
	if !slices.Equal(second, itsObjects()) {
		t.Errorf("two answers are of one memory: %v", second)
	}
	stands(t, m, 2, itsObjects())
	want(t, m, scan(api.Obs{Handle: 65535}, api.Obs{Handle: 1, Long: true}), told(api.Sample{Handle: 65535}, api.Sample{Handle: 1}), 2, itsObjects())
}

// TestP73Stories tells each story twice: once all that was handed in and answered is changed behind each call.
func TestP73Stories(t *testing.T) {
	for seed := range 200 {
		d := &dice{uint64(2000 + seed)}
		m, twin := New(), New()
		for range 60 {
			a := d.message(m)
			b := roomy(copyOf(a))
			was := handle(m, a)
			now := handle(twin, b)
			spoil(b)
			if !was.is(now) {
				t.Fatalf("Handle(%+v) = %+v and %+v", a, was, now)
			}
			spoilReply(now)
			spoilObjects(twin.Objects())
			stands(t, twin, m.State(), m.Objects())
		}
	}
}

// TestP74Samples are told while it is Operating alone, only of handles that the device has, and of a whole message or not at all.
func TestP74Samples(t *testing.T) {
	some := 0
	for seed := range 300 {
		d := &dice{uint64(3000 + seed)}
		m := New()
		for range 80 {
			a, from, has := d.message(m), m.State(), m.Objects()
			r := handle(m, a)
			if len(r.samples) == 0 {
				continue
			}
			some++
			if from != 2 || m.State() != 2 || a.Kind != 0x0D1E || r.e != api.OK {
				t.Fatalf("samples of %+v in %d, error %d", a, from, r.e)
			}
			if len(r.samples) != len(a.Obs) {
				t.Fatalf("%d samples of %d numbers", len(r.samples), len(a.Obs))
			}
			for i, s := range r.samples {
				if s.Handle != a.Obs[i].Handle || !slices.ContainsFunc(has, func(o api.Object) bool { return o.Handle == s.Handle }) {
					t.Fatalf("sample %d is of %d: %+v, %+v", i, s.Handle, a, has)
				}
			}
		}
	}
	if some < 1000 {
		t.Errorf("only %d scans were told", some)
	}
}

// TestP74ErrState is answered by breaking off, but for a scan that is refused.
func TestP74ErrState(t *testing.T) {
	broken, refused := 0, 0
	for seed := range 300 {
		d := &dice{uint64(4000 + seed)}
		m := New()
		for range 80 {
			a, from, has := d.message(m), m.State(), m.Objects()
			r := handle(m, a)
			aborts := len(r.answers) > 0 && r.answers[0].Kind == 0xE600
			switch {
			case r.e != api.ErrState:
				if aborts {
					t.Fatalf("Handle(%+v) in %d breaks off, and %d", a, from, r.e)
				}
			case a.Kind == 0x0D1E && from == 2:
				refused++
				if !r.is(scanRefused()) {
					t.Fatalf("a scan is refused by %+v", r)
				}
				stands(t, m, 2, has)
			default:
				broken++
				if !r.is(brokenOff()) {
					t.Fatalf("Handle(%+v) in %d = %+v", a, from, r)
				}
				stands(t, m, 0, nil)
			}
		}
	}
	if broken < 1000 || refused < 1000 {
		t.Errorf("only %d were broken off, %d scans refused", broken, refused)
	}
}

// TestP74BehindAbort a manager is as a new one, whatever was ahead, and whatever comes then.
func TestP74BehindAbort(t *testing.T) {
	for seed := range 300 {
		d := &dice{uint64(5000 + seed)}
		m := New()
		for range d.below(20) {
			m.Handle(d.message(m))
		}
		want(t, m, abort(d.below(65536)), reply{}, 0, nil)
		fresh := New()
		for range 30 {
			alike(t, m, fresh, []api.Apdu{d.message(m)})
		}
	}
	for state := range 3 {
		for from := range rest() {
			m := inState(t, state)
			m.Handle(abort(1))
			alike(t, m, New(), rest()[from:])
		}
	}
}
