package alarm

import (
	"slices"
	"testing"

	"handbell/api"
)

// The chapter's first four rows: one alarm's life.
func TestP182Examples(t *testing.T) {
	a := made(t, api.AlarmSpec{Priority: 1, Latch: true, Escalate: 2})
	stands(t, a, api.AlarmState{})
	steps(t, a, true, api.AlarmState{Phase: api.PhaseRaised, Priority: 1}, api.EventRaised)
	steps(t, a, true, api.AlarmState{Phase: api.PhaseRaised, Priority: 1, Since: 1})
	steps(t, a, true, api.AlarmState{Phase: api.PhaseRaised, Priority: 2}, api.EventGraver)
	steps(t, a, false, api.AlarmState{Phase: api.PhaseLatched, Priority: 2}, api.EventOver)
	if e := a.Ack(); e != api.OK {
		t.Fatal(e)
	}
	stands(t, a, api.AlarmState{})
	steps(t, a, false, api.AlarmState{})
	steps(t, a, true, api.AlarmState{Phase: api.PhaseRaised, Priority: 1}, api.EventRaised)
	if e := a.Ack(); e != api.OK {
		t.Fatal(e)
	}
	stands(t, a, api.AlarmState{Phase: api.PhaseAcked, Priority: 1})
	steps(t, a, true, api.AlarmState{Phase: api.PhaseAcked, Priority: 1})
	steps(t, a, false, api.AlarmState{}, api.EventOver)
}

// The chapter's last two rows.
func TestP183Examples(t *testing.T) {
	a := made(t, api.AlarmSpec{Priority: 1, Latch: true, Escalate: 2})
	if e := a.Pause(2); e != api.OK {
		t.Fatal(e)
	}
	stands(t, a, api.AlarmState{Pause: 2})
	steps(t, a, false, api.AlarmState{Pause: 1})
	steps(t, a, false, api.AlarmState{}, api.EventResume)
	steps(t, a, false, api.AlarmState{})
	if e := a.Ack(); e != api.ErrState {
		t.Fatal(e)
	}
	if e := a.Pause(0); e != api.ErrRange {
		t.Fatal(e)
	}
	if e := a.Pause(6001); e != api.ErrRange {
		t.Fatal(e)
	}
	stands(t, a, api.AlarmState{})
}

func TestP181NewMayBe(t *testing.T) {
	for _, priority := range edges() {
		for _, escalate := range edges() {
			for _, latch := range []bool{false, true} {
				s := api.AlarmSpec{Priority: priority, Latch: latch, Escalate: escalate}
				a, e := New(s)
				if !wantSpec(s) {
					if a != nil || e != 2 {
						t.Fatalf("New of %+v: %v, %d", s, a, e)
					}
					continue
				}
				if a == nil || e != 0 {
					t.Fatalf("New of %+v: %v, %d", s, a, e)
				}
				stands(t, a, api.AlarmState{})
			}
		}
	}
}

// A spec that may not be has no state, not even the zero one.
func TestP181AgainOfNoSpec(t *testing.T) {
	for _, s := range []api.AlarmSpec{{}, {Priority: 4}, {Priority: -1}, {Priority: 1, Escalate: -1}, {Priority: 1, Escalate: 10001}, {Latch: true, Escalate: 1}} {
		for _, x := range []api.AlarmState{{}, {Pause: 1}, {Phase: 1}, {Phase: 1, Priority: s.Priority}, {Phase: 3, Priority: 3}} {
			if a, e := Again(s, x); a != nil || e != 2 {
				t.Fatalf("Again of %+v, %+v: %v, %d", s, x, a, e)
			}
		}
	}
}

// Every state in a box about all bounds: it may be, and stands so, or it is refused.
func TestP181AgainMayBe(t *testing.T) {
	seen := [2]int{}
	for _, s := range specs(0, 1, 2, 3, 5, 6, 9999, 10000) {
		for phase := -2; phase <= 6; phase++ {
			for priority := -1; priority <= 5; priority++ {
				for _, since := range []int{-1, 0, 1, 2, 3, 4, 5, 6, 9998, 9999, 10000, 10001} {
					for _, pause := range []int{-1, 0, 1, 5999, 6000, 6001} {
						x := api.AlarmState{Phase: phase, Priority: priority, Since: since, Pause: pause}
						seen[stood(t, s, x)]++
					}
				}
			}
		}
	}
	if seen[0] == 0 || seen[1] == 0 {
		t.Fatal(seen)
	}
}

// One field after the other far out, all others being right.
func TestP181AgainFarOut(t *testing.T) {
	for _, s := range specs(0, 1, 4, 10000) {
		for _, x := range states(s, 0, 1, 6000) {
			for _, n := range edges() {
				phase, priority, since, pause := x, x, x, x
				phase.Phase, priority.Priority, since.Since, pause.Pause = n, n, n, n
				for _, y := range []api.AlarmState{phase, priority, since, pause} {
					stood(t, s, y)
				}
			}
		}
	}
}

// stood tells by 1 that a state may be.
func stood(t *testing.T, s api.AlarmSpec, x api.AlarmState) int {
	t.Helper()
	a, e := Again(s, x)
	if !wantState(s, x) {
		if a != nil || e != 2 {
			t.Fatalf("Again of %+v, %+v: %v, %d", s, x, a, e)
		}
		return 0
	}
	if a == nil || e != 0 {
		t.Fatalf("Again of %+v, %+v: %v, %d", s, x, a, e)
	}
	stands(t, a, x)
	return 1
}

// Edges that the chapter names, one by one.
func TestP181AgainEdges(t *testing.T) {
	escalates := api.AlarmSpec{Priority: 2, Latch: true, Escalate: 10000}
	never := api.AlarmSpec{Priority: 2}
	for _, c := range []struct {
		s  api.AlarmSpec
		x  api.AlarmState
		is int
	}{
		{escalates, api.AlarmState{Phase: 1, Priority: 2, Since: 9999}, 1},
		{escalates, api.AlarmState{Phase: 1, Priority: 2, Since: 10000}, 0},
		{escalates, api.AlarmState{Phase: 1, Priority: 3}, 1},
		{escalates, api.AlarmState{Phase: 1, Priority: 3, Since: 1}, 0},
		{escalates, api.AlarmState{Phase: 1, Priority: 1}, 0},
		{escalates, api.AlarmState{Phase: 2, Priority: 3}, 1},
		{escalates, api.AlarmState{Phase: 2, Priority: 2, Since: 1}, 0},
		{escalates, api.AlarmState{Phase: 3, Priority: 3, Pause: 6000}, 1},
		{escalates, api.AlarmState{Phase: 3, Priority: 3, Pause: 6001}, 0},
		{escalates, api.AlarmState{Phase: 3, Priority: 2, Since: 1}, 0},
		{escalates, api.AlarmState{Phase: 0, Priority: 2}, 0},
		{escalates, api.AlarmState{Phase: 0, Since: 1}, 0},
		{escalates, api.AlarmState{Phase: 1}, 0},
		{escalates, api.AlarmState{Phase: 4, Priority: 2}, 0},
		{escalates, api.AlarmState{Phase: -1}, 0},
		{never, api.AlarmState{Phase: 1, Priority: 2}, 1},
		{never, api.AlarmState{Phase: 1, Priority: 2, Since: 1}, 0},
		{never, api.AlarmState{Phase: 1, Priority: 3}, 0},
		{never, api.AlarmState{Phase: 2, Priority: 3}, 0},
		{never, api.AlarmState{Phase: 3, Priority: 2}, 0},
	} {
		if is := stood(t, c.s, c.x); is != c.is {
			t.Errorf("%+v, %+v: %d", c.s, c.x, is)
		}
	}
}

// A step from every state, with the condition and without it.
func TestP182EveryStep(t *testing.T) {
	for _, s := range specs(0, 1, 2, 3, 4, 9999, 10000) {
		for _, x := range states(s, 0, 1, 2, 5999, 6000) {
			for _, active := range []bool{false, true} {
				to, events := wantStep(s, x, active)
				steps(t, again(t, s, x), active, to, events...)
			}
		}
	}
}

// A pause's end is told ahead of what the phase leads to.
func TestP182Order(t *testing.T) {
	s := api.AlarmSpec{Priority: 1, Latch: true, Escalate: 1}
	for _, c := range []struct {
		x      api.AlarmState
		active bool
		events []int
	}{
		{api.AlarmState{Pause: 1}, true, []int{toldResume, toldRaised}},
		{api.AlarmState{Pause: 1}, false, []int{toldResume}},
		{api.AlarmState{Pause: 2}, true, []int{toldRaised}},
		{api.AlarmState{Phase: isRaised, Priority: 1, Pause: 1}, true, []int{toldResume, toldGraver}},
		{api.AlarmState{Phase: isRaised, Priority: 3, Pause: 1}, true, []int{toldResume}},
		{api.AlarmState{Phase: isRaised, Priority: 1, Pause: 1}, false, []int{toldResume, toldOver}},
		{api.AlarmState{Phase: isAcked, Priority: 1, Pause: 1}, false, []int{toldResume, toldOver}},
		{api.AlarmState{Phase: isLatched, Priority: 1, Pause: 1}, true, []int{toldResume, toldRaised}},
		{api.AlarmState{Phase: isLatched, Priority: 1}, false, nil},
		{api.AlarmState{}, false, nil},
	} {
		if l := step(t, again(t, s, c.x), c.active); !slices.Equal(l, c.events) {
			t.Errorf("%+v, %v: %v", c.x, c.active, l)
		}
	}
}

// What a step answers is new memory.
func TestP182NewMemory(t *testing.T) {
	a := made(t, api.AlarmSpec{Priority: 1, Escalate: 1})
	first := step(t, a, true)
	first[0] = 77
	first = append(first, 78)
	if l := step(t, a, true); !slices.Equal(l, []int{toldGraver}) {
		t.Fatal(l)
	}
	if l := step(t, a, false); !slices.Equal(l, []int{toldOver}) || first[0] != 77 {
		t.Fatal(l, first)
	}
}

func TestP183Ack(t *testing.T) {
	for _, s := range specs(0, 1, 2, 10000) {
		for _, x := range states(s, 0, 1, 6000) {
			a := again(t, s, x)
			to, want := wantAck(x)
			if e := a.Ack(); e != want {
				t.Fatalf("%+v, %+v: Ack %d, not %d", s, x, e, want)
			}
			stands(t, a, to)
			// Who has acknowledged it once can't do so again.
			if e := a.Ack(); e != 70 {
				t.Fatalf("%+v, %+v: a second Ack: %d", s, x, e)
			}
			stands(t, a, to)
		}
	}
}

func TestP183Pause(t *testing.T) {
	for _, s := range specs(0, 2, 10000) {
		for _, x := range states(s, 0, 1, 6000) {
			for _, n := range edges() {
				a := again(t, s, x)
				to, want := wantPause(x, n)
				if e := a.Pause(n); e != want {
					t.Fatalf("%+v, %+v: Pause(%d) %d, not %d", s, x, n, e, want)
				}
				stands(t, a, to)
			}
		}
	}
}

// The new pause counts, be it shorter or longer than what was left.
func TestP183PauseWhateverItWas(t *testing.T) {
	a := made(t, api.AlarmSpec{Priority: 2})
	for _, n := range []int{6000, 1, 3, 2, 5999, 1} {
		if e := a.Pause(n); e != 0 {
			t.Fatal(e)
		}
		stands(t, a, api.AlarmState{Pause: n})
	}
	steps(t, a, false, api.AlarmState{}, toldResume)
	steps(t, a, false, api.AlarmState{})
}

// Nil, and one that neither New nor Again made, are none, whatever is done to them.
func TestP182P183None(t *testing.T) {
	for i, a := range []*Alarm{nil, {}, new(Alarm)} {
		for range 2 {
			for _, active := range []bool{false, true} {
				if l, e := a.Step(active); len(l) != 0 || e != 1 {
					t.Errorf("%d: Step %v, %d", i, l, e)
				}
			}
			if e := a.Ack(); e != 1 {
				t.Errorf("%d: Ack %d", i, e)
			}
			for _, n := range edges() {
				if e := a.Pause(n); e != 1 {
					t.Errorf("%d: Pause(%d) %d", i, n, e)
				}
			}
			if x := a.State(); x != (api.AlarmState{}) {
				t.Errorf("%d: %+v", i, x)
			}
		}
	}
}

// One alarm's calls change nothing of another's, of the same spec and state.
func TestR2Apart(t *testing.T) {
	s, x := api.AlarmSpec{Priority: 1, Latch: true, Escalate: 2}, api.AlarmState{Phase: isRaised, Priority: 1, Since: 1, Pause: 2}
	a, b := again(t, s, x), again(t, s, x)
	step(t, a, true)
	a.Ack()
	a.Pause(9)
	stands(t, b, x)
	steps(t, b, false, api.AlarmState{Phase: isLatched, Priority: 1, Pause: 1}, toldOver)
}

// Long stories of all calls, right and wrong ones, call by call.
func TestR1Stories(t *testing.T) {
	d := dice{18}
	for range 40 {
		for _, s := range specs(0, 1, 2, 3, 7) {
			a, at := made(t, s), api.AlarmState{}
			for _, x := range d.acts(60) {
				to, events, want := wantDo(s, at, x)
				l, e := do(a, x)
				if e != want || !slices.Equal(l, events) || a.State() != to {
					t.Fatalf("%+v, %+v, %+v: %v, %d, %+v; not %v, %d, %+v", s, at, x, l, e, a.State(), events, want, to)
				}
				at = to
			}
		}
	}
}
