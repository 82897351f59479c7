package panel

import (
	"math"
	"slices"
	"testing"

	"handbell/api"
)

// The chapter's first row.
func TestP191Examples(t *testing.T) {
	for _, c := range []struct {
		s    api.AlarmState
		want api.Signal
	}{
		{api.AlarmState{Phase: api.PhaseRaised, Priority: 2}, api.Signal{Shown: true, Sounds: true, Priority: 2}},
		{api.AlarmState{Phase: api.PhaseAcked, Priority: 2}, api.Signal{Shown: true, Priority: 2}},
		{api.AlarmState{Phase: api.PhaseLatched, Priority: 1}, api.Signal{Shown: true, Sounds: true, Priority: 1}},
		{api.AlarmState{Phase: api.PhaseRaised, Priority: 3, Pause: 1}, api.Signal{}},
		{api.AlarmState{Phase: api.PhaseQuiet}, api.Signal{}},
	} {
		if x := Signal(c.s); x != c.want {
			t.Errorf("%+v: %+v, not %+v", c.s, x, c.want)
		}
	}
}

// Any state, also one that no alarm has.
func TestP191EveryState(t *testing.T) {
	shown, sounds := 0, 0
	for _, phase := range edges() {
		for _, priority := range edges() {
			for _, pause := range edges() {
				for _, since := range []int{math.MinInt, -1, 0, 1, 9999, math.MaxInt} {
					s := api.AlarmState{Phase: phase, Priority: priority, Since: since, Pause: pause}
					x := Signal(s)
					if want := wantSignal(s); x != want {
						t.Fatalf("%+v: %+v, not %+v", s, x, want)
					}
					if x.Shown {
						shown++
					}
					if x.Sounds {
						sounds++
					}
				}
			}
		}
	}
	// Three phases of three priorities, one pause, six numbers of steps; one of the phases is silent.
	if shown != 54 || sounds != 36 {
		t.Error(shown, sounds)
	}
}

// Edges that the chapter names, one by one.
func TestP191Edges(t *testing.T) {
	for _, s := range []api.AlarmState{
		{Phase: isQuiet, Priority: 2},
		{Phase: -1, Priority: 2},
		{Phase: 4, Priority: 2},
		{Phase: isRaised, Priority: 0},
		{Phase: isRaised, Priority: 4},
		{Phase: isLatched, Priority: -1},
		{Phase: isAcked, Priority: 2, Pause: 1},
		{Phase: isLatched, Priority: 2, Pause: 6000},
		{Phase: isRaised, Priority: 2, Pause: -1},
	} {
		if x := Signal(s); x != (api.Signal{}) {
			t.Errorf("%+v: %+v", s, x)
		}
	}
	for priority := 1; priority <= 3; priority++ {
		for phase, sounds := range map[int]bool{isRaised: true, isAcked: false, isLatched: true} {
			want := api.Signal{Shown: true, Sounds: sounds, Priority: priority}
			if x := Signal(api.AlarmState{Phase: phase, Priority: priority}); x != want {
				t.Errorf("phase %d, priority %d: %+v", phase, priority, x)
			}
		}
	}
}

// The chapter's second and third row.
func TestP192Examples(t *testing.T) {
	l := []api.AlarmState{{}, {Phase: api.PhaseAcked, Priority: 3}, {Phase: api.PhaseRaised, Priority: 1}}
	want := api.Vector{Top: 3, Tone: 1, Locks: [4]bool{false, true, true, true}}
	want.Signals[1] = api.Signal{Shown: true, Priority: 3}
	want.Signals[2] = api.Signal{Shown: true, Sounds: true, Priority: 1}
	if v, e := Of(l, false, []bool{false}); v != want || e != api.OK {
		t.Errorf("%+v, %d", v, e)
	}
	if v, e := Of(make([]api.AlarmState, 27), false, nil); v != (api.Vector{}) || e != api.ErrArg {
		t.Errorf("%+v, %d", v, e)
	}
	if v, e := Of(nil, false, make([]bool, 5)); v != (api.Vector{}) || e != api.ErrArg {
		t.Errorf("%+v, %d", v, e)
	}
}

// However many states and locks: those that may be are shown, beside an error all is zero.
func TestP192Many(t *testing.T) {
	for _, many := range []int{0, 1, 2, 8, 25, 26, 27, 28, 52, 1000} {
		for _, locks := range []int{0, 1, 2, 3, 4, 5, 6, 8, 260} {
			for _, fault := range []bool{false, true} {
				l := slices.Repeat([]api.AlarmState{{Phase: isRaised, Priority: 3}}, many)
				v, e := Of(l, fault, make([]bool, locks))
				want, wantE := wantOf(l, fault, make([]bool, locks))
				if v != want || e != wantE || (e == 2) != (many > 26 || locks > 4) {
					t.Fatalf("%d states, %d locks: %+v, %d, not %+v, %d", many, locks, v, e, want, wantE)
				}
			}
		}
	}
}

// Each condition alone, of each state, at its own place.
func TestP192Places(t *testing.T) {
	for c := range conds {
		for phase := 0; phase <= 3; phase++ {
			for priority := 0; priority <= 4; priority++ {
				for pause := 0; pause <= 1; pause++ {
					l := make([]api.AlarmState, c+1)
					l[c] = api.AlarmState{Phase: phase, Priority: priority, Pause: pause}
					want := api.Vector{Locks: [keys]bool{true, true, true, true}}
					x := wantSignal(l[c])
					want.Signals[c], want.Top = x, x.Priority
					if x.Sounds {
						want.Tone = x.Priority
					}
					if v := of(t, l, false, nil); v != want {
						t.Fatalf("%+v at %d: %+v, not %+v", l[c], c, v, want)
					}
				}
			}
		}
	}
}

// Every list of locks; those that are not told are set.
func TestP192Locks(t *testing.T) {
	for many := range keys + 1 {
		for bits := range 1 << many {
			locks, want := make([]bool, many), [keys]bool{true, true, true, true}
			for k := range many {
				locks[k] = bits>>k&1 == 1
				want[k] = locks[k]
			}
			for _, fault := range []bool{false, true} {
				if v := of(t, nil, fault, locks); v != (api.Vector{Fault: fault, Locks: want}) {
					t.Errorf("%v, %v: %+v", locks, fault, v)
				}
			}
		}
	}
}

// Lists without elements may be nil or not.
func TestP192Empty(t *testing.T) {
	want := api.Vector{Locks: [keys]bool{true, true, true, true}}
	for _, l := range [][]api.AlarmState{nil, {}, make([]api.AlarmState, 0, 30)} {
		for _, locks := range [][]bool{nil, {}, make([]bool, 0, 9)} {
			if v := of(t, l, false, locks); v != want {
				t.Errorf("%+v", v)
			}
		}
	}
}

// What is silent counts for Top, and what is loud for both; what is paused for neither.
func TestP192TopAndTone(t *testing.T) {
	for _, c := range []struct {
		l         []api.AlarmState
		top, tone int
	}{
		{[]api.AlarmState{{Phase: isAcked, Priority: 3}, {Phase: isAcked, Priority: 1}}, 3, 0},
		{[]api.AlarmState{{Phase: isAcked, Priority: 1}, {Phase: isRaised, Priority: 3}}, 3, 3},
		{[]api.AlarmState{{Phase: isAcked, Priority: 2}, {Phase: isLatched, Priority: 1}, {Phase: isRaised, Priority: 3, Pause: 1}}, 2, 1},
		{[]api.AlarmState{{Phase: isLatched, Priority: 2}, {Phase: isRaised, Priority: 1}}, 2, 2},
		{[]api.AlarmState{{Phase: isRaised, Priority: 1}, {Phase: isLatched, Priority: 2}, {Phase: isRaised, Priority: 1}}, 2, 2},
		{[]api.AlarmState{{Phase: isRaised, Priority: 4}, {Phase: 9, Priority: 3}, {Priority: 3}}, 0, 0},
		{[]api.AlarmState{{Phase: isRaised, Priority: math.MaxInt}, {Phase: isAcked, Priority: 1}}, 1, 0},
		{[]api.AlarmState{{Phase: isRaised, Priority: math.MinInt}}, 0, 0},
	} {
		if v := of(t, c.l, false, nil); v.Top != c.top || v.Tone != c.tone {
			t.Errorf("%+v: Top %d, Tone %d", c.l, v.Top, v.Tone)
		}
	}
}

func TestP192Random(t *testing.T) {
	d := dice{192}
	for range 20000 {
		l, fault, locks := d.states(), d.coin(), d.locks()
		want, _ := wantOf(l, fault, locks)
		if v := of(t, l, fault, locks); v != want {
			t.Fatalf("%+v, %v, %v: %+v, not %+v", l, fault, locks, v, want)
		}
	}
}

// What is handed in is only read, its spare room neither read nor written.
func TestP192HandedIn(t *testing.T) {
	d := dice{1920}
	for range 500 {
		all, free := make([]api.AlarmState, conds+4), make([]bool, keys+4)
		for c := range all {
			all[c] = d.state()
		}
		for k := range free {
			free[k] = d.coin()
		}
		wasAll, wasFree := slices.Clone(all), slices.Clone(free)
		l, locks := all[:d.below(conds+1)], free[:d.below(keys+1)]
		v := of(t, l, false, locks)
		if want := of(t, slices.Clone(l), false, slices.Clone(locks)); v != want {
			t.Fatalf("%+v, not %+v", v, want)
		}
		if !slices.Equal(all, wasAll) || !slices.Equal(free, wasFree) {
			t.Fatal("what was handed in is changed")
		}
		clear(all)
		clear(free)
		if want, _ := wantOf(wasAll[:len(l)], false, wasFree[:len(locks)]); v != want {
			t.Fatal("what was handed in is kept")
		}
	}
}

// shows is a vector with one condition, shown with a priority.
func shows(c, priority int) api.Vector {
	var v api.Vector
	v.Signals[c] = api.Signal{Shown: true, Priority: priority}
	return v
}

// One condition against one: at each place, with each priority.
func TestP193OneCondition(t *testing.T) {
	for c := range conds {
		for _, x := range edges() {
			for _, y := range edges() {
				if is := Graver(shows(c, x), shows(c, y)); is != (x >= y) {
					t.Fatalf("%d: %d, %d: %v", c, x, y, is)
				}
			}
			if !Graver(shows(c, x), api.Vector{}) || Graver(api.Vector{}, shows(c, x)) {
				t.Fatalf("%d: %d, against nothing", c, x)
			}
			if other := (c + 1) % conds; Graver(shows(other, 3), shows(c, x)) {
				t.Fatalf("%d shows what %d shows", other, c)
			}
		}
	}
}

// A fault of the first one is enough, one of the second one is nothing.
func TestP193Fault(t *testing.T) {
	bad, high := api.Vector{Fault: true}, shows(7, 3)
	for _, c := range []struct {
		a, b api.Vector
		is   bool
	}{
		{bad, high, true}, {high, bad, true}, {bad, bad, true}, {api.Vector{}, bad, true}, {bad, api.Vector{}, true},
		{api.Vector{}, high, false}, {shows(7, 2), high, false}, {high, shows(7, 2), true},
	} {
		if is := Graver(c.a, c.b); is != c.is {
			t.Errorf("%+v, %+v: %v", c.a, c.b, is)
		}
	}
	high.Fault = true
	if Graver(api.Vector{}, high) || Graver(shows(7, 2), high) || !Graver(shows(7, 3), high) {
		t.Error("a fault hides what is shown beside it, or adds to it")
	}
}

// What sounds, Top, Tone, locks, and what stands beside a condition that is not shown count for nothing.
func TestP193NothingElse(t *testing.T) {
	d := dice{1930}
	for range 5000 {
		a, b := d.anyVector(), d.anyVector()
		if d.coin() {
			a = d.more(b)
		}
		is := Graver(a, b)
		for _, v := range []*api.Vector{&a, &b} {
			v.Top, v.Tone = pick(&d, edges()...), pick(&d, edges()...)
			for k := range v.Locks {
				v.Locks[k] = d.coin()
			}
			for c := range v.Signals {
				x := &v.Signals[c]
				x.Sounds = d.coin()
				if !x.Shown {
					x.Priority = pick(&d, edges()...)
				}
			}
		}
		b.Fault = d.coin()
		if Graver(a, b) != is {
			t.Fatalf("%+v, %+v: not %v any more", a, b, is)
		}
	}
}

func TestP193Random(t *testing.T) {
	d, seen := dice{193}, [2]int{}
	for i := range 20000 {
		a, b := d.vector(t), d.vector(t)
		if i%2 == 1 {
			a, b = d.anyVector(), d.anyVector()
		}
		if i%4 > 1 {
			a = d.more(b)
		}
		want := wantGraver(a, b)
		if is := Graver(a, b); is != want {
			t.Fatalf("%+v, %+v: %v", a, b, is)
		}
		if want {
			seen[1]++
		} else {
			seen[0]++
		}
	}
	if seen[0] < 2000 || seen[1] < 2000 {
		t.Error(seen)
	}
}

// The same arguments have the same answer, whatever was called between.
func TestR2Same(t *testing.T) {
	d := dice{2}
	for range 200 {
		l, fault, locks := d.states(), d.coin(), d.locks()
		v := of(t, l, fault, locks)
		Of(make([]api.AlarmState, 27), true, nil)
		w := d.vector(t)
		is := Graver(v, w)
		Graver(w, v)
		if of(t, l, fault, locks) != v || Graver(v, w) != is {
			t.Fatal("not the same")
		}
	}
}
