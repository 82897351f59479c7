package filter

import (
	"slices"
	"testing"

	"handbell/api"
)

// A reading has a value just in ReadFresh and ReadHeld; all others have 0.
func TestP143Value(t *testing.T) {
	everywhere(143, func(_ *dice, f api.Filter, steps []step) {
		for i, r := range readings(t, f, steps) {
			switch r.State {
			case fresh, held:
			case none, stale, off:
				if r.Value != 0 {
					t.Fatalf("%v: behind %v: %v", f, steps[:i+1], r)
				}
			default:
				t.Fatalf("%v: behind %v: no such state: %v", f, steps[:i+1], r)
			}
		}
	})
}

// With numbers that are never 0, and their rates, none of the values is: so they are there in both states.
func TestP143ValueIsThere(t *testing.T) {
	d := dice{1430}
	for _, limit := range []int{1, 2, 3, 10} {
		for _, f := range filters(limit) {
			for range 20 {
				steps := d.steps(0, 30, limit+1)
				for _, s := range steps {
					for k, r := range s.l {
						if r.Kind == api.RealNumber {
							s.l[k] = api.Real{Mantissa: 1 + d.below(1000)}
						}
					}
				}
				for i, r := range readings(t, f, steps) {
					if has := r.Value != 0; has != (r.State == fresh || r.State == held) {
						t.Fatalf("%v: behind %v: %v", f, steps[:i+1], r)
					}
				}
			}
		}
	}
}

// The value held is that of the last ReadFresh, and there was one.
func TestP143Held(t *testing.T) {
	everywhere(1431, func(_ *dice, f api.Filter, steps []step) {
		var ahead *api.Reading
		for i, r := range readings(t, f, steps) {
			switch r.State {
			case fresh:
				ahead = &r
			case held:
				if ahead == nil || r.Value != ahead.Value {
					t.Fatalf("%v: behind %v: %v, the last ReadFresh being %v", f, steps[:i+1], r, ahead)
				}
			case stale, off:
				ahead = nil
			}
		}
	})
}

// Beats hold the rate that was there at the last ReadFresh, however long ago.
func TestP143HeldRate(t *testing.T) {
	for _, limit := range []int{3, 50, 10000} { // above 2, so that the ticks rise
		for _, apart := range []int{1, 2, limit} {
			f := api.Filter{Kind: 4, N: 3, Stale: limit}
			steps := []step{{0, whole(1)}, {apart, whole(1)}}
			want := []api.Reading{{}, {State: fresh, Value: nearestInt(600000, apart)}}
			for _, ago := range []int{1, 2, limit} {
				steps = append(steps, step{apart + ago, nil})
				want = append(want, api.Reading{State: held, Value: want[1].Value})
			}
			reads(t, f, steps, want...)
		}
	}
}

// values are the readings that have one; all others are alike.
func values(l []api.Reading) []api.Reading {
	var out []api.Reading
	for _, r := range l {
		if r.State != fresh && r.State != held {
			r = api.Reading{}
		}
		out = append(out, r)
	}
	return out
}

// Nothing that was heard ahead of a ReadStale or ReadOff makes a difference to the values behind it: a new filter, from there on, has the same ones.
func TestP143Forgotten(t *testing.T) {
	everywhere(1432, func(_ *dice, f api.Filter, steps []step) {
		all := readings(t, f, steps)
		for i, r := range all {
			if r.State != stale && r.State != off {
				continue
			}
			if got := readings(t, f, steps[i:]); !slices.Equal(values(got), values(all[i:])) {
				t.Fatalf("%v: %v: from the step %d on %v, alone %v", f, steps, i, all[i:], got)
			}
		}
	})
}

// One that has heard other things ahead, too, and all its readings are the same, if it was heard just then that the sensor is off, or if both are stale.
func TestP143OtherPast(t *testing.T) {
	everywhere(1433, func(d *dice, f api.Filter, steps []step) {
		at := steps[len(steps)-1].tick
		if at > most-2*f.Stale-10 {
			return
		}
		tail := append([]step{{at + f.Stale + 1, nil}}, d.steps(at+f.Stale+2, 8, f.Stale)...)
		if d.below(2) == 0 {
			tail = append([]step{{at + 1, []api.Real{isOff()}}}, d.steps(at+2, 8, f.Stale)...)
		}
		one := readings(t, f, append(steps[:len(steps):len(steps)], tail...))
		other := readings(t, f, append([]step{{at, d.reals()}}, tail...))
		if !slices.Equal(one[len(steps):], other[1:]) {
			t.Fatalf("%v: %v: %v, with another past %v", f, tail, one[len(steps):], other[1:])
		}
	})
}

// without are steps without what is no number and not off; among puts such things between all that is heard.
func without(steps []step) []step {
	var out []step
	for _, s := range steps {
		l := slices.DeleteFunc(slices.Clone(s.l), func(r api.Real) bool { return slices.Contains(others(), r) })
		out = append(out, step{s.tick, l})
	}
	return out
}

func among(d *dice, steps []step) []step {
	var out []step
	for _, s := range steps {
		l := slices.Clone(s.l)
		for len(l) < 64 && d.below(8) > 0 {
			l = slices.Insert(l, d.below(len(l)+1), others()[d.below(4)])
		}
		out = append(out, step{s.tick, l})
	}
	return out
}

func TestP144Unheard(t *testing.T) {
	everywhere(144, func(d *dice, f api.Filter, steps []step) {
		bare := without(steps)
		want := readings(t, f, bare)
		reads(t, f, steps, want...)
		reads(t, f, among(d, bare), want...)
	})
}

// Nothing but such things is as good as nothing, each of them and all.
func TestP144NothingElse(t *testing.T) {
	for _, f := range filters(3) {
		for _, l := range append([][]api.Real{others()}, others()[:1], others()[1:2], others()[2:3], others()[3:]) {
			reads(t, f, []step{{0, l}, {3, l}, {4, l}}, api.Reading{}, api.Reading{}, api.Reading{State: stale})
			reads(t, f, []step{{2, []api.Real{isOff()}}, {3, l}, {5, l}, {6, l}}, api.Reading{State: off}, api.Reading{State: off}, api.Reading{State: off}, api.Reading{State: stale})
			heard := readings(t, f, []step{{0, whole(2)}, {1, whole(3)}, {2, nil}, {4, nil}, {5, nil}})
			reads(t, f, []step{{0, whole(2)}, {1, whole(3)}, {2, l}, {4, l}, {5, l}}, heard...)
		}
	}
}

// A plain filter reads the last number of the tick, if the sensor is not off behind it.
func TestP145LastNumber(t *testing.T) {
	d := dice{145}
	for _, limit := range limits() {
		for _, steps := range lists(&d, limit) {
			for i, r := range readings(t, api.Filter{Stale: limit}, steps) {
				numbers := slices.DeleteFunc(slices.Clone(steps[i].l), func(r api.Real) bool { return r.Kind != api.RealNumber })
				isFresh := len(numbers) > 0
				for _, x := range steps[i].l {
					if x.Kind == api.RealNumber || x.Kind == api.RealOff {
						isFresh = x.Kind == api.RealNumber
					}
				}
				if (r.State == fresh) != isFresh {
					t.Fatalf("Stale %d: behind %v: %v", limit, steps[:i+1], r)
				}
				if isFresh && r.Value != thousandths(numbers[len(numbers)-1]) {
					t.Fatalf("Stale %d: behind %v: %v", limit, steps[:i+1], r)
				}
			}
		}
	}
}

// A median or an average of 1, and a slow one of 1000, are plain ones.
func TestP145PlainOnes(t *testing.T) {
	d := dice{1450}
	for _, limit := range limits() {
		for _, steps := range lists(&d, limit) {
			want := readings(t, api.Filter{Stale: limit}, steps)
			for _, f := range []api.Filter{{Kind: 1, N: 1}, {Kind: 2, N: 1}, {Kind: 3, N: 1000}} {
				f.Stale = limit
				reads(t, f, steps, want...)
			}
		}
	}
}

// Others are not.
func TestP145OtherOnes(t *testing.T) {
	for _, f := range []api.Filter{{Kind: 1, N: 3}, {Kind: 2, N: 2}, {Kind: 3, N: 999}, {Kind: 4, N: 2}} {
		f.Stale = 5
		if r := readings(t, f, []step{{0, whole(1000, 9000)}}); r[0] == (api.Reading{State: fresh, Value: 9000000}) {
			t.Fatalf("%v: it reads %v", f, r)
		}
	}
}

// A refusal: a step that is refused behind a step at a tick, and with which error.
type refusal struct {
	step
	e api.Errno
}

// refusals are steps of all kinds that are refused behind one at a tick (-1: ahead of the first one). They have numbers and offs, which would be seen, had they been heard.
func refusals(d *dice, tick int) []refusal {
	heard := append(whole(500, 3), isOff())
	if d.below(2) == 0 {
		heard = append([]api.Real{isOff()}, whole(700, 8)...)
	}
	var out []refusal
	for _, no := range append(beyond(), tick, tick-1) {
		out = append(out, refusal{step{no, heard}, api.ErrRange})
	}
	if tick == most {
		return out
	}
	not := wrongReals()
	for _, later := range []int{tick + 1, tick + 1 + d.below(most-tick), most} {
		long := slices.Repeat(heard, 22)[:65]
		wrong := append(heard[:3:3], not[d.below(len(not))])
		out = append(out, refusal{step{later, long}, api.ErrMany}, refusal{step{later, wrong}, api.ErrArg}, refusal{step{later, append(wrong[3:4:4], heard...)}, api.ErrArg})
	}
	return out
}

// The readings are the same as without the steps that are refused, wherever these stand.
func TestP146Refused(t *testing.T) {
	everywhere(146, func(d *dice, f api.Filter, steps []step) {
		want := readings(t, f, steps)
		task := made(t, f)
		ahead := -1
		for i, s := range steps {
			for _, x := range refusals(d, ahead) {
				if d.below(3) > 0 {
					refused(t, task, x.e, x.tick, x.l)
				}
			}
			if got := read(t, task, s); got != want[i] {
				t.Fatalf("%v: behind %v, and steps that were refused: %v, want %v", f, steps[:i+1], got, want[i])
			}
			ahead = s.tick
		}
	})
}

// Each kind of refusal alone, in the midst of what is held, stale, off or not yet there.
func TestP146Alone(t *testing.T) {
	d := dice{1460}
	for _, f := range filters(3) {
		for _, l := range [][]api.Real{nil, whole(1, 2), {isOff()}, others()} {
			steps := []step{{0, whole(4)}, {2, l}, {3, nil}, {4, whole(6)}, {5, nil}, {9, nil}, {10, whole(5)}, {12, whole(1)}}
			want := readings(t, f, steps)
			for at := range steps {
				ahead := -1
				if at > 0 {
					ahead = steps[at-1].tick
				}
				for _, x := range refusals(&d, ahead) {
					task := made(t, f)
					for i, s := range steps {
						if i == at {
							refused(t, task, x.e, x.tick, x.l)
						}
						if got := read(t, task, s); got != want[i] {
							t.Fatalf("%v: %v: with %v refused ahead of the step %d: at the step %d %v, want %v", f, steps, x, at, i, got, want[i])
						}
					}
				}
			}
		}
	}
}
