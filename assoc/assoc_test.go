package assoc

import (
	"bytes"
	"slices"
	"testing"

	"handbell/apdu"
	"handbell/api"
	"handbell/real"
)

// reply is all that Handle answers.
type reply struct {
	answers []api.Apdu
	samples []api.Sample
	e       api.Errno
}

func handle(m *Manager, a api.Apdu) reply {
	answers, samples, e := m.Handle(a)
	return reply{answers, samples, e}
}

func (r reply) is(other reply) bool {
	return slices.EqualFunc(r.answers, other.answers, same) && slices.Equal(r.samples, other.samples) && r.e == other.e
}

// same tells whether two messages are the same, lists without elements being nil or not.
func same(a, b api.Apdu) bool {
	return a.Kind == b.Kind && bytes.Equal(a.System, b.System) && a.Config == b.Config && a.Result == b.Result &&
		a.Reason == b.Reason && slices.Equal(a.Objects, b.Objects) && slices.Equal(a.Obs, b.Obs)
}

// answered is a reply of one message, and nothing else.
func answered(a api.Apdu) reply { return reply{answers: []api.Apdu{a}} }

func told(samples ...api.Sample) reply { return reply{samples: samples} }

func brokenOff() reply {
	return reply{answers: []api.Apdu{{Kind: 0xE600}}, e: 70}
}

func scanRefused() reply { return reply{e: 70} }

// The messages that a device can say, and then those that are a manager's to say.

func ask(config int) api.Apdu {
	return api.Apdu{Kind: 0xE200, System: []byte{1, 2, 3, 4, 5, 6, 7, 8}, Config: config}
}

func config(number int, objects ...api.Object) api.Apdu {
	return api.Apdu{Kind: 0x0D1C, Config: number, Objects: objects}
}

func scan(obs ...api.Obs) api.Apdu { return api.Apdu{Kind: 0x0D1E, Obs: obs} }

func release(reason int) api.Apdu { return api.Apdu{Kind: 0xE400, Reason: reason} }

func abort(reason int) api.Apdu { return api.Apdu{Kind: 0xE600, Reason: reason} }

func answer(result, config int) api.Apdu {
	return api.Apdu{Kind: 0xE300, Result: result, Config: config}
}

func done(reason int) api.Apdu { return api.Apdu{Kind: 0xE500, Reason: reason} }

func takenOf(config, result int) api.Apdu {
	return api.Apdu{Kind: 0x0D1D, Config: config, Result: result}
}

// The Config of managers that are in a state, and the objects of those that are Operating: a short, a long, a short one.
const itsConfig = 5

func itsObjects() []api.Object {
	return []api.Object{{Handle: 7, Unit: 4}, {Handle: 1, Unit: 65535, Long: true}, {Handle: 65535}}
}

// inState is a manager that was brought there by messages.
func inState(t *testing.T, state int) *Manager {
	t.Helper()
	m := New()
	for i, a := range []api.Apdu{ask(itsConfig), config(itsConfig, itsObjects()...)} {
		if i < state {
			m.Handle(a)
		}
	}
	if m.State() != state {
		t.Fatalf("the state is %d, want %d", m.State(), state)
	}
	return m
}

// want is a call of Handle with what is answered, and how the manager stands afterwards.
func want(t *testing.T, m *Manager, a api.Apdu, r reply, state int, objects []api.Object) {
	t.Helper()
	if got := handle(m, a); !got.is(r) {
		t.Errorf("Handle(%+v) = %+v; want %+v", a, got, r)
	}
	stands(t, m, state, objects)
}

func stands(t *testing.T, m *Manager, state int, objects []api.Object) {
	t.Helper()
	if got := m.State(); got != state {
		t.Errorf("State() = %d; want %d", got, state)
	}
	if got := m.Objects(); !slices.Equal(got, objects) {
		t.Errorf("Objects() = %+v; want %+v", got, objects)
	}
}

// model is the section 'Words' said again.
type model struct {
	state, config int
	objects       []api.Object
}

func (w *model) handle(a api.Apdu) reply {
	if _, e := apdu.Pack(a); e != api.OK {
		return reply{e: 2}
	}
	switch w.state {
	case 0:
		if a.Kind == 0xE200 && a.Config == 0 {
			return answered(answer(1, 0))
		}
		if a.Kind == 0xE200 {
			*w = model{state: 1, config: a.Config}
			return answered(answer(3, a.Config))
		}
	case 1:
		if a.Kind == 0x0D1C && a.Config == w.config {
			*w = model{state: 2, objects: a.Objects}
			return answered(takenOf(a.Config, 0))
		}
		if a.Kind == 0x0D1C {
			return answered(takenOf(a.Config, 1))
		}
	case 2:
		if a.Kind == 0x0D1E {
			return w.scan(a.Obs)
		}
	}
	asked := w.state != 0
	*w = model{}
	switch {
	case a.Kind == 0xE400 && asked:
		return answered(done(a.Reason))
	case a.Kind == 0xE600:
		return reply{}
	}
	return brokenOff()
}

func (w *model) scan(obs []api.Obs) reply {
	var samples []api.Sample
	for _, o := range obs {
		found := false
		for _, p := range w.objects {
			found = found || p.Handle == o.Handle && p.Long == o.Long
		}
		if !found {
			return scanRefused()
		}
		if o.Long {
			samples = append(samples, api.Sample{Handle: o.Handle, Value: real.Long(o.Bits)})
		} else {
			samples = append(samples, api.Sample{Handle: o.Handle, Value: real.Short(uint16(o.Bits))})
		}
	}
	return told(samples...)
}

// dice are numbers without an order to be seen, the same ones for the same seed.
type dice struct{ x uint64 }

func (d *dice) below(n int) int {
	d.x = d.x*6364136223846793005 + 1442695040888963407
	return int(d.x >> 33 % uint64(n))
}

// objects are some of few handles, so that scans meet them.
func (d *dice) objects() []api.Object {
	var out []api.Object
	for _, h := range []int{1, 0, 65535, 2, 256} {
		if d.below(3) > 0 {
			out = append(out, api.Object{Handle: h, Unit: d.below(65536), Long: d.below(2) == 0})
		}
	}
	for i := range out {
		j := d.below(i + 1)
		out[i], out[j] = out[j], out[i]
	}
	return out
}

// obs are numbers of these objects, now and then with one that is not.
func (d *dice) obs(objects []api.Object) []api.Obs {
	var out []api.Obs
	for range d.below(5) {
		if len(objects) > 0 {
			p := objects[d.below(len(objects))]
			out = append(out, d.number(p.Handle, p.Long))
		}
	}
	if d.below(3) == 0 {
		o := d.number([]int{1, 0, 65535, 2, 256, 3}[d.below(6)], d.below(2) == 0)
		out = slices.Insert(out, d.below(len(out)+1), o)
	}
	return out
}

func (d *dice) number(handle int, long bool) api.Obs {
	if long {
		return api.Obs{Handle: handle, Long: true, Bits: uint32(d.below(1<<31))*2 + uint32(d.below(2))}
	}
	return api.Obs{Handle: handle, Bits: uint32(d.below(65536))}
}

// message is any, but more often one that the association goes on by than not.
func (d *dice) message(m *Manager) api.Apdu {
	configs := []int{5, 5, 5, 6, 0, 65535}
	kind := d.below(30)
	if d.below(3) > 0 {
		kind = m.State()
	}
	switch kind {
	case 0:
		return ask(configs[d.below(6)])
	case 1:
		return config(configs[d.below(6)], d.objects()...)
	case 2, 3, 4, 5, 6:
		return scan(d.obs(m.Objects())...)
	case 7:
		return answer(d.below(4), configs[d.below(6)])
	case 8:
		return done(d.below(65536))
	case 9:
		return takenOf(configs[d.below(6)], d.below(2))
	case 10:
		return abort(d.below(65536))
	case 11:
		return release(d.below(65536))
	case 12, 13, 14:
		return mayNotBe()[d.below(len(mayNotBe()))]
	}
	return scan(d.obs(m.Objects())...)
}

// mayNotBe are messages that apdu.Pack refuses, at least one for each thing that may be wrong, and for each kind.
func mayNotBe() []api.Apdu {
	seven, nine := ask(5), ask(5)
	seven.System, nine.System = make([]byte, 7), make([]byte, 9)
	short := api.Obs{Handle: 7, Bits: 65536}
	good := api.Obs{Handle: 7, Bits: 1}
	spare := func(a api.Apdu, change func(*api.Apdu)) api.Apdu {
		change(&a)
		return a
	}
	return []api.Apdu{
		{}, {Kind: 7}, {Kind: -1}, {Kind: 0xE700}, {Kind: 0xE100}, {Kind: 0x0D1B}, {Kind: 0x0D1F}, {Kind: 0xE200 + 1<<32},
		{Kind: 0xE200, Config: 5}, seven, nine, ask(-1), ask(65536), ask(5 + 1<<32),
		spare(ask(5), func(a *api.Apdu) { a.Result = 1 }),
		spare(ask(5), func(a *api.Apdu) { a.Objects = itsObjects() }),
		answer(-1, 5), answer(65536, 5), answer(3, -1), spare(answer(3, 5), func(a *api.Apdu) { a.Reason = 1 }),
		release(-1), release(65536), spare(release(3), func(a *api.Apdu) { a.Config = 1 }),
		done(-1), done(65536), spare(done(3), func(a *api.Apdu) { a.System = make([]byte, 8) }),
		abort(-1), abort(65536), spare(abort(9), func(a *api.Apdu) { a.Config = 1 }),
		spare(abort(9), func(a *api.Apdu) { a.Obs = make([]api.Obs, 1) }),
		config(-1), config(65536), config(5 + 1<<32),
		config(5, make([]api.Object, 17)...), config(5, seventeen()...),
		config(5, api.Object{Handle: 1}, api.Object{Handle: 1}), config(5, api.Object{Handle: 1}, api.Object{Handle: 1, Unit: 2, Long: true}),
		config(5, api.Object{Handle: 65536}), config(5, api.Object{Handle: -1}),
		config(5, api.Object{Unit: 65536}), config(5, api.Object{Unit: -1}),
		spare(config(5), func(a *api.Apdu) { a.Result = 1 }),
		spare(config(5), func(a *api.Apdu) { a.Obs = []api.Obs{good} }),
		takenOf(-1, 0), takenOf(65536, 0), takenOf(5, -1), takenOf(5, 65536),
		scan(short), scan(good, short), scan(api.Obs{Handle: -1}), scan(good, api.Obs{Handle: 65536}), scan(api.Obs{Handle: 7 + 1<<32}),
		scan(slices.Repeat([]api.Obs{good}, 65)...),
		spare(scan(good), func(a *api.Apdu) { a.Config = 5 }), spare(scan(good), func(a *api.Apdu) { a.Objects = itsObjects() }),
	}
}

// seventeen are objects of which each may be, but one too many.
func seventeen() []api.Object {
	var out []api.Object
	for h := range 17 {
		out = append(out, api.Object{Handle: h})
	}
	return out
}
