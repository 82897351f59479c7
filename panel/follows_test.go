package panel

import (
	"slices"
	"testing"

	"handbell/alarm"
	"handbell/api"
)

// P19.4: of every vector that Of makes.
func TestP194Bounds(t *testing.T) {
	d, empty := dice{194}, 0
	for range 20000 {
		v := d.vector(t)
		if v.Tone > v.Top || v.Top < 0 || v.Tone < 0 || v.Top > 3 {
			t.Fatalf("Top %d, Tone %d", v.Top, v.Tone)
		}
		isShown := false
		for c, x := range v.Signals {
			isShown = isShown || x.Shown
			if x.Priority > v.Top || x.Sounds && !x.Shown || x.Sounds && x.Priority > v.Tone {
				t.Fatalf("condition %d: %+v; Top %d, Tone %d", c, x, v.Top, v.Tone)
			}
		}
		if (v.Top == 0) == isShown {
			t.Fatalf("Top %d, shown: %v", v.Top, isShown)
		}
		if !isShown {
			empty++
		}
	}
	if empty == 0 || empty == 20000 {
		t.Error(empty)
	}
}

// P19.4: whatever sounds is shown, of any state.
func TestP194Signal(t *testing.T) {
	d := dice{1940}
	for range 20000 {
		s := d.state()
		if x := Signal(s); x.Sounds && !x.Shown || x.Shown != (x.Priority > 0) {
			t.Fatalf("%+v: %+v", s, x)
		}
	}
}

// P19.5: any vector shows no less than itself, and with Fault no less than any other one.
func TestP195Itself(t *testing.T) {
	d := dice{195}
	for range 5000 {
		for _, v := range []api.Vector{d.vector(t), d.anyVector(), {}} {
			if !Graver(v, v) {
				t.Fatalf("%+v shows less than itself", v)
			}
			other := d.anyVector()
			v.Fault = true
			if !Graver(v, other) {
				t.Fatalf("with Fault %+v shows less than %+v", v, other)
			}
		}
	}
}

// P19.5: with the first one's Fault, or without any.
func TestP195Order(t *testing.T) {
	d, chains := dice{1950}, 0
	for i := range 30000 {
		c := d.vector(t)
		if i%2 == 1 {
			c = d.anyVector()
		}
		b := d.more(c)
		a := d.more(b)
		if i%3 > 0 {
			a.Fault, b.Fault, c.Fault = i%3 == 2, false, false
		}
		if !a.Fault && (b.Fault || c.Fault) || !Graver(a, b) || !Graver(b, c) {
			continue
		}
		chains++
		if !Graver(a, c) {
			t.Fatalf("%+v\n%+v\n%+v", a, b, c)
		}
	}
	if chains < 3000 {
		t.Error(chains)
	}
}

// Those that show no less than each other show the same, and a Fault between two others is no bridge.
func TestP195SameShown(t *testing.T) {
	d := dice{1951}
	for range 10000 {
		b := d.vector(t)
		a := d.more(b)
		a.Fault, b.Fault = false, false
		same := slices.EqualFunc(a.Signals[:], b.Signals[:], func(x, y api.Signal) bool {
			return x.Shown == y.Shown && (!x.Shown || x.Priority == y.Priority)
		})
		if (Graver(a, b) && Graver(b, a)) != same {
			t.Fatalf("%+v, %+v", a, b)
		}
	}
	nothing, bad, high := api.Vector{}, api.Vector{Fault: true}, shows(0, 3)
	if !Graver(nothing, bad) || !Graver(bad, high) || Graver(nothing, high) {
		t.Error("over a Fault")
	}
}

// P19.6: one state is put instead of another one, or behind the others.
func TestP196OneState(t *testing.T) {
	d := dice{196}
	for range 10000 {
		l, fault, locks := d.states(), d.coin(), d.locks()
		c := d.below(min(len(l)+1, conds))
		m := slices.Clone(l)
		if c == len(m) {
			m = append(m, api.AlarmState{})
		}
		m[c] = d.state()
		v, w := of(t, l, fault, locks), of(t, m, fault, locks)
		if w.Signals[c] != Signal(m[c]) {
			t.Fatalf("condition %d: %+v of %+v", c, w.Signals[c], m[c])
		}
		w.Signals[c], w.Top, w.Tone = v.Signals[c], v.Top, v.Tone
		if v != w {
			t.Fatalf("condition %d has changed more: %+v, %+v", c, v, w)
		}
	}
}

// P19.6: locks and Fault change nothing but themselves.
func TestP196Apart(t *testing.T) {
	d := dice{1960}
	for range 5000 {
		l, fault, locks, others := d.states(), d.coin(), d.locks(), d.locks()
		v, w := of(t, l, fault, locks), of(t, l, !fault, others)
		if w.Fault == v.Fault {
			t.Fatal(w.Fault)
		}
		w.Fault, w.Locks = v.Fault, v.Locks
		if v != w {
			t.Fatalf("%+v, %+v", v, w)
		}
	}
}

// An alarm's whole life, as it is seen and heard.
func TestOfAnAlarm(t *testing.T) {
	a, e := alarm.New(api.AlarmSpec{Priority: 2, Latch: true, Escalate: 2})
	if e != api.OK {
		t.Fatal(e)
	}
	step := func(active bool) func() api.Errno {
		return func() api.Errno { _, e := a.Step(active); return e }
	}
	pause := func() api.Errno { return a.Pause(2) }
	for i, c := range []struct {
		do   func() api.Errno
		want api.Signal
	}{
		{step(false), api.Signal{}},
		{step(true), api.Signal{Shown: true, Sounds: true, Priority: 2}},
		{step(true), api.Signal{Shown: true, Sounds: true, Priority: 2}},
		{step(true), api.Signal{Shown: true, Sounds: true, Priority: 3}},
		{pause, api.Signal{}},
		{step(true), api.Signal{}},
		{step(false), api.Signal{Shown: true, Sounds: true, Priority: 3}},
		{step(true), api.Signal{Shown: true, Sounds: true, Priority: 2}},
		{a.Ack, api.Signal{Shown: true, Priority: 2}},
		{step(true), api.Signal{Shown: true, Priority: 2}},
		{step(false), api.Signal{}},
	} {
		if e := c.do(); e != api.OK {
			t.Fatal(i, e)
		}
		if x := Signal(a.State()); x != c.want {
			t.Fatalf("%d: %+v of %+v", i, x, a.State())
		}
	}
}
