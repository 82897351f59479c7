package alarm

import (
	"math"
	"slices"
	"testing"

	"handbell/api"
)

// Phases and events, by their numbers.
const (
	isQuiet   = 0
	isRaised  = 1
	isAcked   = 2
	isLatched = 3

	toldRaised = 1
	toldOver   = 2
	toldGraver = 3
	toldResume = 4
)

// What an alarm and its states may be, and what is done to it, said again.

func wantSpec(s api.AlarmSpec) bool {
	return slices.Contains([]int{1, 2, 3}, s.Priority) && !(s.Escalate < 0) && !(s.Escalate > 10000)
}

func wantGrows(s api.AlarmSpec, x api.AlarmState) bool {
	return s.Escalate > 0 && x.Priority < 3
}

func wantState(s api.AlarmSpec, x api.AlarmState) bool {
	if !slices.Contains([]int{0, 1, 2, 3}, x.Phase) || x.Phase == isLatched && !s.Latch {
		return false
	}
	if x.Pause < 0 || x.Pause > 6000 {
		return false
	}
	if x.Phase == isQuiet {
		return x.Priority == 0 && x.Since == 0
	}
	counts := x.Priority == s.Priority
	if s.Escalate > 0 {
		counts = s.Priority <= x.Priority && x.Priority <= 3
	}
	lasts := x.Since == 0
	if x.Phase == isRaised && wantGrows(s, x) {
		lasts = 0 <= x.Since && x.Since < s.Escalate
	}
	return counts && lasts
}

func wantStep(s api.AlarmSpec, x api.AlarmState, active bool) (api.AlarmState, []int) {
	var events []int
	if x.Pause > 0 {
		x.Pause--
		if x.Pause == 0 {
			events = append(events, toldResume)
		}
	}
	begun := api.AlarmState{Phase: isRaised, Priority: s.Priority, Pause: x.Pause}
	over := api.AlarmState{Phase: isQuiet, Pause: x.Pause}
	switch x.Phase {
	case isQuiet:
		if active {
			return begun, append(events, toldRaised)
		}
	case isLatched:
		if active {
			return begun, append(events, toldRaised)
		}
	case isAcked:
		if !active {
			return over, append(events, toldOver)
		}
	case isRaised:
		if !active && s.Latch {
			over.Phase, over.Priority = isLatched, x.Priority
		}
		if !active {
			return over, append(events, toldOver)
		}
		if wantGrows(s, x) {
			x.Since++
			if x.Since == s.Escalate {
				x.Priority, x.Since, events = x.Priority+1, 0, append(events, toldGraver)
			}
		}
	}
	return x, events
}

func wantAck(x api.AlarmState) (api.AlarmState, api.Errno) {
	switch x.Phase {
	case isRaised:
		return api.AlarmState{Phase: isAcked, Priority: x.Priority, Pause: x.Pause}, 0
	case isLatched:
		return api.AlarmState{Phase: isQuiet, Pause: x.Pause}, 0
	}
	return x, 70
}

func wantPause(x api.AlarmState, n int) (api.AlarmState, api.Errno) {
	if n < 1 || n > 6000 {
		return x, 9
	}
	x.Pause = n
	return x, 0
}

// dice throws numbers, always the same ones.
type dice struct{ x uint64 }

func (d *dice) below(n int) int {
	d.x = d.x*6364136223846793005 + 1442695040888963407
	return int(d.x >> 33 % uint64(n))
}

func pick[T any](d *dice, l ...T) T { return l[d.below(len(l))] }

// edges are numbers about which a bound may be misplaced, and far ones.
func edges() []int {
	return []int{
		math.MinInt, math.MinInt32, -10000, -6000, -2, -1, 0, 1, 2, 3, 4, 5, 6, 257,
		5998, 5999, 6000, 6001, 9998, 9999, 10000, 10001, math.MaxInt32, 1 << 32, 1<<32 + 1, math.MaxInt - 1, math.MaxInt,
	}
}

// specs are all that may be, with some numbers of steps.
func specs(escalates ...int) []api.AlarmSpec {
	var out []api.AlarmSpec
	for priority := 1; priority <= 3; priority++ {
		for _, escalate := range escalates {
			for _, latch := range []bool{false, true} {
				out = append(out, api.AlarmSpec{Priority: priority, Latch: latch, Escalate: escalate})
			}
		}
	}
	return out
}

// states are all that may be of a spec, with some pauses; of many steps, those about the bounds.
func states(s api.AlarmSpec, pauses ...int) []api.AlarmState {
	sinces := []int{0, 1, 2, 3, 4, s.Escalate / 2, s.Escalate - 2, s.Escalate - 1, s.Escalate}
	slices.Sort(sinces)
	var out []api.AlarmState
	for phase := 0; phase <= 3; phase++ {
		for priority := 0; priority <= 3; priority++ {
			for _, since := range slices.Compact(slices.Clone(sinces)) {
				for _, pause := range pauses {
					x := api.AlarmState{Phase: phase, Priority: priority, Since: since, Pause: pause}
					if wantState(s, x) {
						out = append(out, x)
					}
				}
			}
		}
	}
	return out
}

func made(t *testing.T, s api.AlarmSpec) *Alarm {
	t.Helper()
	a, e := New(s)
	if e != 0 || a == nil {
		t.Fatalf("New of %+v: %d", s, e)
	}
	return a
}

func again(t *testing.T, s api.AlarmSpec, x api.AlarmState) *Alarm {
	t.Helper()
	a, e := Again(s, x)
	if e != 0 || a == nil {
		t.Fatalf("Again of %+v, %+v: %d", s, x, e)
	}
	return a
}

func stands(t *testing.T, a *Alarm, want api.AlarmState) {
	t.Helper()
	for range 2 {
		if got := a.State(); got != want {
			t.Fatalf("it stands as %+v, not %+v", got, want)
		}
	}
}

func step(t *testing.T, a *Alarm, active bool) []int {
	t.Helper()
	l, e := a.Step(active)
	if e != 0 {
		t.Fatalf("a step: %d", e)
	}
	return l
}

// steps makes a step, of which these must be the events, and the state behind it.
func steps(t *testing.T, a *Alarm, active bool, want api.AlarmState, events ...int) {
	t.Helper()
	ahead := a.State()
	if l := step(t, a, active); !slices.Equal(l, events) {
		t.Fatalf("from %+v, %v: events %v, not %v", ahead, active, l, events)
	}
	stands(t, a, want)
}

// act is something that is done to an alarm: a step with or without the condition, an Ack, a Pause.
type act struct {
	what int
	n    int
}

const (
	no = iota
	yes
	ack
	pause
)

func (d *dice) acts(many int) []act {
	var out []act
	for range many {
		x := act{what: pick(d, no, no, yes, yes, yes, yes, yes, ack, pause)}
		if x.what == pause {
			x.n = pick(d, 1, 2, 3, 4, 7, 20, 6000, 0, -1, 6001, math.MaxInt)
		}
		out = append(out, x)
	}
	return out
}

// do does it: events and error.
func do(a *Alarm, x act) ([]int, api.Errno) {
	switch x.what {
	case ack:
		return nil, a.Ack()
	case pause:
		return nil, a.Pause(x.n)
	}
	return a.Step(x.what == yes)
}

// wantDo is what it should do.
func wantDo(s api.AlarmSpec, at api.AlarmState, x act) (to api.AlarmState, events []int, e api.Errno) {
	switch x.what {
	case ack:
		to, e = wantAck(at)
	case pause:
		to, e = wantPause(at, x.n)
	default:
		to, events = wantStep(s, at, x.what == yes)
	}
	return to, events, e
}
