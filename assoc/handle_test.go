package assoc

import (
	"slices"
	"testing"

	"handbell/api"
)

func TestP71New(t *testing.T) {
	stands(t, New(), 0, nil)
	if Alone != 0 || Asking != 1 || Operating != 2 {
		t.Errorf("the states are %d, %d, %d", Alone, Asking, Operating)
	}
	m, other := New(), New()
	m.Handle(ask(5))
	stands(t, other, 0, nil)
}

func TestP71Examples(t *testing.T) {
	m := New()
	want(t, m, ask(0), answered(answer(1, 0)), 0, nil)
	want(t, m, ask(5), answered(answer(3, 5)), 1, nil)
	want(t, m, config(6), answered(takenOf(6, 1)), 1, nil)
	has := []api.Object{{Handle: 1, Unit: 4}}
	want(t, m, config(5, has...), answered(takenOf(5, 0)), 2, has)
	sent := api.Obs{Handle: 1, Bits: 0xF16E}
	want(t, m, scan(sent), told(api.Sample{Handle: 1, Value: api.Real{Mantissa: 366, Exponent: -1}}), 2, has)
	want(t, m, scan(sent, api.Obs{Handle: 2, Bits: 7}), scanRefused(), 2, has)
	want(t, m, scan(), reply{}, 2, has)
	want(t, m, release(3), answered(done(3)), 0, nil)
	want(t, m, scan(), brokenOff(), 0, nil)
	want(t, m, abort(9), reply{}, 0, nil)
}

// TestP71Story is a device that asks, tells its configuration, is taken, tells numbers and releases.
func TestP71Story(t *testing.T) {
	m := New()
	has := []api.Object{{Handle: 2, Unit: 0x17A0, Long: true}, {Handle: 1, Unit: 0x0AA0}}
	want(t, m, ask(0x4000), answered(answer(3, 0x4000)), 1, nil)
	want(t, m, config(0x4000, has...), answered(takenOf(0x4000, 0)), 2, has)
	want(t, m, scan(api.Obs{Handle: 1, Bits: 72}), told(api.Sample{Handle: 1, Value: api.Real{Mantissa: 72}}), 2, has)
	want(t, m, scan(api.Obs{Handle: 1, Bits: 0xFFFF}, api.Obs{Handle: 2, Long: true, Bits: 0xFE000E4C}),
		told(api.Sample{Handle: 1, Value: api.Real{Mantissa: -1, Exponent: -1}},
			api.Sample{Handle: 2, Value: api.Real{Mantissa: 3660, Exponent: -2}}), 2, has)
	want(t, m, release(0), answered(done(0)), 0, nil)
}

// TestP71EachKindInEachState is the section 'Words', written out for each of them.
func TestP71EachKindInEachState(t *testing.T) {
	has := itsObjects()
	sent := api.Obs{Handle: 7, Bits: 0x0800}
	off := told(api.Sample{Handle: 7, Value: api.Real{Kind: api.RealOff}})
	for _, x := range []struct {
		a     api.Apdu
		in    [3]reply
		state [3]int
	}{
		{ask(9), [3]reply{answered(answer(3, 9)), brokenOff(), brokenOff()}, [3]int{1, 0, 0}},
		{answer(3, 5), [3]reply{brokenOff(), brokenOff(), brokenOff()}, [3]int{}},
		{release(8), [3]reply{brokenOff(), answered(done(8)), answered(done(8))}, [3]int{}},
		{done(8), [3]reply{brokenOff(), brokenOff(), brokenOff()}, [3]int{}},
		{abort(8), [3]reply{}, [3]int{}},
		{config(itsConfig, has...), [3]reply{brokenOff(), answered(takenOf(itsConfig, 0)), brokenOff()}, [3]int{0, 2, 0}},
		{takenOf(itsConfig, 0), [3]reply{brokenOff(), brokenOff(), brokenOff()}, [3]int{}},
		{scan(sent), [3]reply{brokenOff(), brokenOff(), off}, [3]int{0, 0, 2}},
	} {
		for state := range 3 {
			var objects []api.Object
			if x.state[state] == 2 {
				objects = has
			}
			want(t, inState(t, state), x.a, x.in[state], x.state[state], objects)
		}
	}
}

func TestP71AskOfEachConfig(t *testing.T) {
	m := New()
	for range 3 {
		want(t, m, ask(0), answered(answer(1, 0)), 0, nil)
	}
	for _, n := range []int{1, 255, 256, 0x4000, 65535} {
		m := New()
		want(t, m, ask(n), answered(answer(3, n)), 1, nil)
		want(t, m, config(n-1), answered(takenOf(n-1, 1)), 1, nil)
		want(t, m, config(n), answered(takenOf(n, 0)), 2, nil)
	}
}

func TestP71AskedAgain(t *testing.T) {
	for _, state := range []int{1, 2} {
		for _, n := range []int{0, itsConfig, itsConfig + 1} {
			want(t, inState(t, state), ask(n), brokenOff(), 0, nil)
		}
	}
}

func TestP71ConfigOfItsOwn(t *testing.T) {
	for name, objects := range map[string][]api.Object{
		"nil": nil, "none": {}, "one": {{Handle: 3, Unit: 9, Long: true}}, "sixteen": seventeen()[1:],
	} {
		t.Run(name, func(t *testing.T) {
			want(t, inState(t, 1), config(itsConfig, objects...), answered(takenOf(itsConfig, 0)), 2, objects)
		})
	}
}

func TestP71ConfigOfAnother(t *testing.T) {
	m := inState(t, 1)
	for _, n := range []int{0, itsConfig - 1, itsConfig + 1, 65535} {
		for _, objects := range [][]api.Object{nil, {}, itsObjects(), seventeen()[1:]} {
			want(t, m, config(n, objects...), answered(takenOf(n, 1)), 1, nil)
		}
	}
	want(t, m, scan(), brokenOff(), 0, nil)

	m = inState(t, 1)
	m.Handle(config(itsConfig+1, api.Object{Handle: 9}))
	want(t, m, config(itsConfig, itsObjects()...), answered(takenOf(itsConfig, 0)), 2, itsObjects())
	want(t, m, scan(api.Obs{Handle: 9}), scanRefused(), 2, itsObjects())
}

func TestP71ConfigAgain(t *testing.T) {
	for _, n := range []int{0, itsConfig, itsConfig + 1} {
		for _, objects := range [][]api.Object{nil, itsObjects()} {
			want(t, inState(t, 2), config(n, objects...), brokenOff(), 0, nil)
		}
	}
}

func TestP71Scan(t *testing.T) {
	number := func(h, mantissa int) api.Sample { return api.Sample{Handle: h, Value: api.Real{Mantissa: mantissa}} }
	kind := func(h, kind int) api.Sample { return api.Sample{Handle: h, Value: api.Real{Kind: kind}} }
	for name, x := range map[string]struct {
		obs []api.Obs
		r   reply
	}{
		"nil":  {nil, reply{}},
		"none": {[]api.Obs{}, reply{}},
		"all objects": {[]api.Obs{{Handle: 7, Bits: 2}, {Handle: 1, Long: true, Bits: 3}, {Handle: 65535, Bits: 4}},
			told(number(7, 2), number(1, 3), number(65535, 4))},
		"another order": {[]api.Obs{{Handle: 65535, Bits: 4}, {Handle: 7, Bits: 2}, {Handle: 1, Long: true, Bits: 3}},
			told(number(65535, 4), number(7, 2), number(1, 3))},
		"one twice": {[]api.Obs{{Handle: 7, Bits: 2}, {Handle: 7, Bits: 1}}, told(number(7, 2), number(7, 1))},
		"one twice, the same": {[]api.Obs{{Handle: 1, Long: true, Bits: 2}, {Handle: 7}, {Handle: 1, Long: true, Bits: 2}},
			told(number(1, 2), number(7, 0), number(1, 2))},
		"16 and 32 bits": {[]api.Obs{{Handle: 7, Bits: 0x07FF}, {Handle: 1, Long: true, Bits: 0x07FF}, {Handle: 1, Long: true, Bits: 0x007FFFFF}, {Handle: 7, Bits: 0xF16E}, {Handle: 1, Long: true, Bits: 0xF16E}},
			told(kind(7, api.RealNone), number(1, 0x07FF), kind(1, api.RealNone), api.Sample{Handle: 7, Value: api.Real{Mantissa: 366, Exponent: -1}}, number(1, 0xF16E))},
		"64": {slices.Repeat([]api.Obs{{Handle: 65535, Bits: 9}}, 64),
			told(slices.Repeat([]api.Sample{number(65535, 9)}, 64)...)},
		"unknown":                      {[]api.Obs{{Handle: 2}}, scanRefused()},
		"unknown 0":                    {[]api.Obs{{}}, scanRefused()},
		"unknown, long":                {[]api.Obs{{Handle: 2, Long: true}}, scanRefused()},
		"unknown behind":               {[]api.Obs{{Handle: 7}, {Handle: 1, Long: true}, {Handle: 2}}, scanRefused()},
		"unknown ahead":                {[]api.Obs{{Handle: 2}, {Handle: 7}}, scanRefused()},
		"unknown between":              {[]api.Obs{{Handle: 7}, {Handle: 6}, {Handle: 7}}, scanRefused()},
		"long, and the object is not":  {[]api.Obs{{Handle: 7, Long: true}}, scanRefused()},
		"the same behind":              {[]api.Obs{{Handle: 7}, {Handle: 7, Long: true, Bits: 1}}, scanRefused()},
		"short, and the object is not": {[]api.Obs{{Handle: 1}}, scanRefused()},
		"the same, behind":             {[]api.Obs{{Handle: 1, Long: true}, {Handle: 1}}, scanRefused()},
		"64, the last unknown":         {append(slices.Repeat([]api.Obs{{Handle: 7}}, 63), api.Obs{Handle: 8}), scanRefused()},
	} {
		t.Run(name, func(t *testing.T) {
			m := inState(t, 2)
			for range 2 {
				want(t, m, scan(x.obs...), x.r, 2, itsObjects())
			}
			want(t, m, scan(api.Obs{Handle: 7, Bits: 5}), told(number(7, 5)), 2, itsObjects())
		})
	}
}

func TestP71ScanOfADeviceWithoutObjects(t *testing.T) {
	m := New()
	m.Handle(ask(1))
	want(t, m, config(1), answered(takenOf(1, 0)), 2, nil)
	want(t, m, scan(), reply{}, 2, nil)
	want(t, m, scan(api.Obs{}), scanRefused(), 2, nil)
	want(t, m, scan(api.Obs{Long: true}), scanRefused(), 2, nil)
}

func TestP71ScanOfSixteenObjects(t *testing.T) {
	m := New()
	m.Handle(ask(1))
	m.Handle(config(1, seventeen()[:16]...))
	var obs []api.Obs
	var samples []api.Sample
	for h := range 16 {
		obs = append(obs, api.Obs{Handle: h, Bits: uint32(100 + h)})
		samples = append(samples, api.Sample{Handle: h, Value: api.Real{Mantissa: 100 + h}})
	}
	want(t, m, scan(obs...), told(samples...), 2, seventeen()[:16])
	want(t, m, scan(append(obs, api.Obs{Handle: 16})...), scanRefused(), 2, seventeen()[:16])
}

func TestP71ReleaseAndAbortOfEachReason(t *testing.T) {
	for state := range 3 {
		for _, reason := range []int{0, 1, 256, 65535} {
			ended := answered(done(reason))
			if state == 0 {
				ended = brokenOff()
			}
			want(t, inState(t, state), release(reason), ended, 0, nil)
			want(t, inState(t, state), abort(reason), reply{}, 0, nil)
		}
	}
}

// TestP71TheNextAssociation has other objects, and a Config of its own, whatever the one ahead of it ended by.
func TestP71TheNextAssociation(t *testing.T) {
	for name, end := range map[string]api.Apdu{"broken off": done(1), "asked again": ask(6), "released": release(1), "aborted": abort(1)} {
		t.Run(name, func(t *testing.T) {
			m := inState(t, 2)
			m.Handle(end)
			want(t, m, ask(6), answered(answer(3, 6)), 1, nil)
			want(t, m, config(itsConfig, itsObjects()...), answered(takenOf(itsConfig, 1)), 1, nil)
			has := []api.Object{{Handle: 8, Unit: 1}, {Handle: 1, Unit: 2}}
			want(t, m, config(6, has...), answered(takenOf(6, 0)), 2, has)
			want(t, m, scan(api.Obs{Handle: 7}), scanRefused(), 2, has)
			want(t, m, scan(api.Obs{Handle: 1, Long: true}), scanRefused(), 2, has)
			want(t, m, scan(api.Obs{Handle: 1}, api.Obs{Handle: 8}), told(api.Sample{Handle: 1}, api.Sample{Handle: 8}), 2, has)

			m = inState(t, 1)
			m.Handle(end)
			want(t, m, config(itsConfig), brokenOff(), 0, nil)
		})
	}
}

func TestP71NoManager(t *testing.T) {
	for name, m := range map[string]*Manager{"nil": nil, "zero": {}} {
		t.Run(name, func(t *testing.T) {
			messages := append(mayNotBe(), ask(0), ask(5), config(5), config(5, itsObjects()...), scan(), scan(api.Obs{}), release(0), abort(0), answer(3, 5), done(0), takenOf(5, 0))
			for _, a := range messages {
				want(t, m, a, reply{e: 1}, 0, nil)
			}
		})
	}
}

// rest is what tells two managers from one another, if anything does.
func rest() []api.Apdu {
	return []api.Apdu{scan(api.Obs{Handle: 7, Bits: 1}, api.Obs{Handle: 1, Long: true, Bits: 2}), config(6), config(itsConfig, api.Object{Handle: 3}),
		scan(api.Obs{Handle: 3}), ask(0), ask(6), config(itsConfig), config(6, itsObjects()...), release(4), release(4)}
}

// alike holds two managers against one another, message by message.
func alike(t *testing.T, a, b *Manager, messages []api.Apdu) {
	t.Helper()
	for _, x := range messages {
		if a.State() != b.State() || !slices.Equal(a.Objects(), b.Objects()) {
			t.Fatalf("%d and %v, %d and %v", a.State(), a.Objects(), b.State(), b.Objects())
		}
		if r, s := handle(a, x), handle(b, x); !r.is(s) {
			t.Fatalf("Handle(%+v) = %+v and %+v", x, r, s)
		}
	}
}

func TestP71MayNotBe(t *testing.T) {
	has := [3][]api.Object{2: itsObjects()}
	for state := range 3 {
		for _, a := range mayNotBe() {
			// Behind a message that breaks off nothing is left to tell them by: so each one is the first of the rest once.
			for from := range rest() {
				m := inState(t, state)
				want(t, m, a, reply{e: 2}, state, has[state])
				alike(t, m, inState(t, state), rest()[from:])
			}
		}
	}
}

// TestP71WhichFirst: of what may not be and could not be handled either, ErrArg is told; of no manager, ErrNil.
func TestP71WhichFirst(t *testing.T) {
	unknown := api.Obs{Handle: 2}
	many := slices.Repeat([]api.Obs{unknown}, 65)
	want(t, inState(t, 0), scan(many...), reply{e: 2}, 0, nil)
	want(t, inState(t, 1), release(65536), reply{e: 2}, 1, nil)
	want(t, inState(t, 1), ask(-1), reply{e: 2}, 1, nil)
	want(t, inState(t, 2), scan(many...), reply{e: 2}, 2, itsObjects())
	want(t, inState(t, 2), scan(unknown, api.Obs{Handle: 7, Bits: 65536}), reply{e: 2}, 2, itsObjects())
	want(t, inState(t, 2), config(itsConfig, seventeen()...), reply{e: 2}, 2, itsObjects())
	var none *Manager
	want(t, none, scan(many...), reply{e: 1}, 0, nil)
	want(t, &Manager{}, api.Apdu{Kind: 7}, reply{e: 1}, 0, nil)
}

// TestP71Stories holds long stories against the section 'Words' said again.
func TestP71Stories(t *testing.T) {
	met := map[[3]int]int{} // by the state ahead, the state behind, and the error
	for seed := range 400 {
		d := &dice{uint64(seed)}
		m, w := New(), &model{}
		for range 100 {
			a, from := d.message(m), w.state
			r := w.handle(a)
			want(t, m, a, r, w.state, w.objects)
			met[[3]int{from, w.state, int(r.e)}]++
		}
	}
	for _, way := range [][3]int{{0, 0, 0}, {0, 1, 0}, {0, 0, 70}, {0, 0, 2}, {1, 1, 0}, {1, 2, 0}, {1, 0, 0}, {1, 0, 70}, {1, 1, 2},
		{2, 2, 0}, {2, 2, 70}, {2, 0, 0}, {2, 0, 70}, {2, 2, 2}} {
		if met[way] < 20 {
			t.Errorf("from %d to %d with %d only %d times", way[0], way[1], way[2], met[way])
		}
	}
}

func TestP72ObjectsStandAsTheyWereTold(t *testing.T) {
	m := inState(t, 2)
	for range 3 {
		stands(t, m, 2, itsObjects())
	}
	var none *Manager
	for _, m := range []*Manager{none, {}, New(), inState(t, 1)} {
		if got := m.Objects(); len(got) != 0 {
			t.Errorf("Objects() = %v", got)
		}
	}
}
