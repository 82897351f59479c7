package alarm

import (
	"slices"
	"testing"

	"handbell/api"
)

// Quiet or latched just if the condition was not so at the last step, whatever was done since.
func TestP184LastStep(t *testing.T) {
	d := dice{184}
	for range 40 {
		for _, s := range specs(0, 1, 2, 5) {
			a, was := made(t, s), false
			for _, x := range d.acts(50) {
				do(a, x)
				if x.what == yes || x.what == no {
					was = x.what == yes
				}
				phase := a.State().Phase
				if isOver := phase == isQuiet || phase == isLatched; isOver == was {
					t.Fatalf("%+v: phase %d, the condition being %v", s, phase, was)
				}
			}
		}
	}
}

// moment is what an act answered, and how it stood behind it.
type moment struct {
	events []int
	e      api.Errno
	x      api.AlarmState
}

func course(a *Alarm, acts []act) []moment {
	var out []moment
	for _, x := range acts {
		l, e := do(a, x)
		out = append(out, moment{l, e, a.State()})
	}
	return out
}

// Behind each act another one is made of the state: it goes on as the first one did.
func TestP184Again(t *testing.T) {
	d := dice{1840}
	for range 8 {
		for _, s := range specs(0, 1, 2, 3, 9) {
			acts := d.acts(40)
			whole := course(made(t, s), acts)
			for i, x := range whole {
				for j, got := range course(again(t, s, x.x), acts[i+1:]) {
					want := whole[i+1+j]
					if !slices.Equal(got.events, want.events) || got.e != want.e || got.x != want.x {
						t.Fatalf("%+v: made again of %+v, %+v later: %+v, not %+v", s, x.x, acts[i+1:i+2+j], got, want)
					}
				}
			}
		}
	}
}

// What may be a state is just what calls lead to: none that Again refuses, and all that it takes.
func TestP184Reached(t *testing.T) {
	for _, s := range specs(0, 1, 2, 3, 4) {
		reached := map[api.AlarmState]int{}
		work := []api.AlarmState{{}}
		for len(work) > 0 {
			x := work[0]
			work = work[1:]
			if reached[x] > 0 {
				continue
			}
			reached[x] = 1
			for _, y := range []act{{no, 0}, {yes, 0}, {ack, 0}, {pause, 1}, {pause, 2}, {pause, 3}} {
				a := again(t, s, x)
				do(a, y)
				work = append(work, a.State())
			}
		}
		all := states(s, 0, 1, 2, 3)
		for _, x := range all {
			if reached[x] == 0 {
				t.Fatalf("%+v: nothing leads to %+v", s, x)
			}
		}
		if len(all) != len(reached) {
			t.Fatalf("%+v: %d states may be, %d are reached", s, len(all), len(reached))
		}
	}
}

// Between EventRaised and an Ack what latches is raised or latched.
func TestP185NeverForgotten(t *testing.T) {
	d := dice{185}
	held := 0
	for range 60 {
		for _, s := range specs(0, 1, 3) {
			if !s.Latch {
				continue
			}
			a, open := made(t, s), false
			for _, x := range d.acts(80) {
				l, e := do(a, x)
				open = open && !(x.what == ack && e == 0) || slices.Contains(l, toldRaised)
				if phase := a.State().Phase; open && phase != isRaised && phase != isLatched {
					t.Fatalf("%+v: phase %d, and nobody has acknowledged it", s, phase)
				}
				if open && a.State().Phase == isLatched {
					held++
				}
			}
		}
	}
	if held == 0 {
		t.Fatal("nothing was latched")
	}
}

// What latches stays latched, however long the condition is not so; without Latch it is quiet at once.
func TestP185Latched(t *testing.T) {
	for _, s := range specs(0, 2) {
		a := made(t, s)
		step(t, a, true)
		for i := range 7000 {
			events := step(t, a, false)
			want := api.AlarmState{}
			if s.Latch {
				want = api.AlarmState{Phase: isLatched, Priority: s.Priority}
			}
			if a.State() != want || (len(events) > 0) != (i == 0) {
				t.Fatalf("%+v: at %d %+v, %v", s, i, a.State(), events)
			}
		}
	}
}

// Behind just n steps, be the condition so or not, the end is told once.
func TestP186JustSoMany(t *testing.T) {
	d := dice{186}
	for _, n := range []int{1, 2, 3, 10, 999, 5999, 6000} {
		for _, s := range specs(0, 1, 50) {
			a := made(t, s)
			if e := a.Pause(n); e != 0 {
				t.Fatal(e)
			}
			for i := 1; i <= n+5; i++ {
				told := slices.Contains(step(t, a, d.below(2) == 0), toldResume)
				if left := a.State().Pause; left != max(n-i, 0) || told != (i == n) {
					t.Fatalf("a pause of %d: behind %d steps %d are left, told %v", n, i, left, told)
				}
			}
		}
	}
}

// Two alarms, one of them paused at times: all else is alike.
func TestP186NothingElse(t *testing.T) {
	d := dice{1860}
	for range 40 {
		for _, s := range specs(0, 1, 2, 3) {
			a, b := made(t, s), made(t, s)
			for _, x := range d.acts(60) {
				l, e := do(a, x)
				if x.what == pause {
					continue
				}
				m, f := do(b, x)
				l = slices.DeleteFunc(l, func(event int) bool { return event == toldResume })
				as := a.State()
				as.Pause = 0
				if !slices.Equal(l, m) || e != f || as != b.State() {
					t.Fatalf("%+v, %+v: %v, %d, %+v; without a pause %v, %d, %+v", s, x, l, e, as, m, f, b.State())
				}
			}
		}
	}
}

// As long as it is raised: 1 more each Escalate steps, up to 3, and never less.
func TestP187Grows(t *testing.T) {
	for _, s := range specs(0, 1, 2, 3, 10, 9999, 10000) {
		a := made(t, s)
		step(t, a, true)
		for i := 1; i <= 2*s.Escalate+5; i++ {
			events, want := step(t, a, true), s.Priority
			if s.Escalate > 0 {
				want = min(s.Priority+i/s.Escalate, 3)
			}
			isGraver := s.Escalate > 0 && i%s.Escalate == 0 && s.Priority+i/s.Escalate <= 3
			if got := a.State().Priority; got != want || slices.Equal(events, []int{toldGraver}) != isGraver {
				t.Fatalf("%+v: behind %d more steps priority %d, not %d; %v", s, i, got, want, events)
			}
		}
	}
}

func TestP187NeverFalls(t *testing.T) {
	d := dice{187}
	for range 40 {
		for _, s := range specs(0, 1, 2, 5) {
			a := made(t, s)
			for _, x := range d.acts(60) {
				ahead := a.State()
				l, _ := do(a, x)
				behind := a.State()
				if ahead.Phase != isRaised || behind.Phase != isRaised {
					continue
				}
				more := 0
				if slices.Contains(l, toldGraver) {
					more = 1
				}
				if behind.Priority != ahead.Priority+more || behind.Priority > 3 {
					t.Fatalf("%+v: from %+v to %+v, %v", s, ahead, behind, l)
				}
			}
		}
	}
}

// What is acknowledged grows no more; what is raised anew begins with the spec's priority.
func TestP187Anew(t *testing.T) {
	a := made(t, api.AlarmSpec{Priority: 1, Latch: true, Escalate: 1})
	step(t, a, true)
	steps(t, a, true, api.AlarmState{Phase: isRaised, Priority: 2}, toldGraver)
	if e := a.Ack(); e != 0 {
		t.Fatal(e)
	}
	for range 20 {
		steps(t, a, true, api.AlarmState{Phase: isAcked, Priority: 2})
	}
	steps(t, a, false, api.AlarmState{}, toldOver)
	steps(t, a, true, api.AlarmState{Phase: isRaised, Priority: 1}, toldRaised)
	steps(t, a, true, api.AlarmState{Phase: isRaised, Priority: 2}, toldGraver)
	steps(t, a, true, api.AlarmState{Phase: isRaised, Priority: 3}, toldGraver)
	steps(t, a, false, api.AlarmState{Phase: isLatched, Priority: 3}, toldOver)
	steps(t, a, false, api.AlarmState{Phase: isLatched, Priority: 3})
	steps(t, a, true, api.AlarmState{Phase: isRaised, Priority: 1}, toldRaised)
}
