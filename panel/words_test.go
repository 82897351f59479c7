package panel

import (
	"math"
	"testing"

	"handbell/api"
)

// Phases and bounds, by their numbers.
const (
	isQuiet   = 0
	isRaised  = 1
	isAcked   = 2
	isLatched = 3

	conds = 26
	keys  = 4
)

// What is seen and heard, and all that is shown, said again.

func wantSignal(s api.AlarmState) api.Signal {
	var out api.Signal
	out.Shown = (s.Phase == isRaised || s.Phase == isAcked || s.Phase == isLatched) &&
		(s.Priority == 1 || s.Priority == 2 || s.Priority == 3) && s.Pause == 0
	out.Sounds = out.Shown && (s.Phase == isRaised || s.Phase == isLatched)
	if out.Shown {
		out.Priority = s.Priority
	}
	return out
}

func wantOf(l []api.AlarmState, fault bool, locks []bool) (api.Vector, api.Errno) {
	if len(l) > conds || len(locks) > keys {
		return api.Vector{}, 2
	}
	v := api.Vector{Fault: fault, Locks: [keys]bool{true, true, true, true}}
	for k := range locks {
		v.Locks[k] = locks[k]
	}
	for c := range l {
		v.Signals[c] = wantSignal(l[c])
	}
	// The greatest one is looked for from above.
	for priority := 3; priority >= 1; priority-- {
		for _, x := range v.Signals {
			if x.Shown && x.Priority == priority && v.Top == 0 {
				v.Top = priority
			}
			if x.Sounds && x.Priority == priority && v.Tone == 0 {
				v.Tone = priority
			}
		}
	}
	return v, 0
}

func wantGraver(a, b api.Vector) bool {
	if a.Fault {
		return true
	}
	for c := range conds {
		if b.Signals[c].Shown && !(a.Signals[c].Shown && a.Signals[c].Priority >= b.Signals[c].Priority) {
			return false
		}
	}
	return true
}

// dice throws numbers, always the same ones.
type dice struct{ x uint64 }

func (d *dice) below(n int) int {
	d.x = d.x*6364136223846793005 + 1442695040888963407
	return int(d.x >> 33 % uint64(n))
}

func (d *dice) coin() bool { return d.below(2) == 1 }

func pick[T any](d *dice, l ...T) T { return l[d.below(len(l))] }

// edges are numbers about which a bound may be misplaced, and far ones.
func edges() []int {
	return []int{
		math.MinInt, math.MinInt32, -257, -3, -2, -1, 0, 1, 2, 3, 4, 5, 256, 257, 6000, 6001,
		math.MaxInt32, 1 << 32, 1<<32 + 1, 1<<32 + 3, math.MaxInt - 1, math.MaxInt,
	}
}

// state is mostly one that is shown; some are none that may be.
func (d *dice) state() api.AlarmState {
	s := api.AlarmState{Phase: d.below(4), Priority: 1 + d.below(3), Since: pick(d, 0, 0, 5)}
	switch d.below(10) {
	case 0:
		s.Phase = pick(d, edges()...)
	case 1:
		s.Priority = pick(d, edges()...)
	case 2, 3:
		s.Pause = pick(d, edges()...)
	case 4:
		return api.AlarmState{}
	}
	return s
}

func (d *dice) states() []api.AlarmState {
	l := make([]api.AlarmState, pick(d, 0, 1, 2, 3, d.below(conds), conds-1, conds, conds))
	isFull := d.coin()
	for c := range l {
		if isFull || d.below(4) == 0 {
			l[c] = d.state()
		}
	}
	return l
}

func (d *dice) locks() []bool {
	l := make([]bool, d.below(keys+1))
	for k := range l {
		l[k] = d.coin()
	}
	return l
}

// vector is one that Of makes.
func (d *dice) vector(t *testing.T) api.Vector {
	t.Helper()
	return of(t, d.states(), d.below(5) == 0, d.locks())
}

// anyVector is any, also one that Of never makes: what is not shown has a priority or sounds, Top and Tone are whatever.
func (d *dice) anyVector() api.Vector {
	v := api.Vector{Top: pick(d, edges()...), Tone: pick(d, edges()...), Fault: d.below(8) == 0}
	for c := range v.Signals {
		v.Signals[c] = api.Signal{Shown: d.coin(), Sounds: d.coin(), Priority: pick(d, 0, 1, 2, 3)}
		if d.below(6) == 0 {
			v.Signals[c].Priority = pick(d, edges()...)
		}
	}
	for k := range v.Locks {
		v.Locks[k] = d.coin()
	}
	return v
}

// more is one that shows no less, or nearly so.
func (d *dice) more(v api.Vector) api.Vector {
	for range d.below(6) {
		x := &v.Signals[d.below(conds)]
		if x.Shown && x.Priority < math.MaxInt {
			x.Priority += pick(d, 0, 1)
		}
		if !x.Shown {
			*x = api.Signal{Shown: true, Priority: 1 + d.below(3)}
		}
	}
	x := &v.Signals[d.below(conds)]
	switch d.below(6) {
	case 0:
		x.Shown = false
	case 1:
		x.Priority = d.below(4)
	}
	v.Fault = v.Fault != (d.below(8) == 0)
	return v
}

func of(t *testing.T, l []api.AlarmState, fault bool, locks []bool) api.Vector {
	t.Helper()
	v, e := Of(l, fault, locks)
	if e != 0 {
		t.Fatalf("Of %+v, %v, %v: %d", l, fault, locks, e)
	}
	return v
}
