package assoc

import (
	"slices"

	"handbell/api"
	"handbell/real"
)

// step is what is done about a message that may be.
type step func(m *Manager, a api.Apdu) ([]api.Apdu, []api.Sample, api.Errno)

// leadsTo is the step that a message of a kind leads to where the association stands so.
func leadsTo(state, kind int) step {
	switch {
	case kind == api.ApduAbort:
		return (*Manager).aborted
	case kind == api.ApduAsk && state == Alone:
		return (*Manager).asked
	case kind == api.ApduConfig && state == Asking:
		return (*Manager).configured
	case kind == api.ApduScan && state == Operating:
		return (*Manager).scanned
	case kind == api.ApduRelease && state != Alone:
		return (*Manager).released
	}
	return (*Manager).breakOff
}

func (m *Manager) asked(a api.Apdu) ([]api.Apdu, []api.Sample, api.Errno) {
	if a.Config == 0 {
		return one(api.Apdu{Kind: api.ApduAnswer, Result: refused}), nil, api.OK
	}
	m.state, m.config = Asking, a.Config
	return one(api.Apdu{Kind: api.ApduAnswer, Result: tellConfig, Config: a.Config}), nil, api.OK
}

func (m *Manager) configured(a api.Apdu) ([]api.Apdu, []api.Sample, api.Errno) {
	if a.Config != m.config {
		return one(api.Apdu{Kind: api.ApduTaken, Result: notTaken, Config: a.Config}), nil, api.OK
	}
	m.operate(a.Objects)
	return one(api.Apdu{Kind: api.ApduTaken, Result: taken, Config: a.Config}), nil, api.OK
}

// scanned tells nothing until it is known that all of the numbers are the device's.
func (m *Manager) scanned(a api.Apdu) ([]api.Apdu, []api.Sample, api.Errno) {
	for _, o := range a.Obs {
		if !m.has(o) {
			return nil, nil, api.ErrState
		}
	}
	samples := make([]api.Sample, len(a.Obs))
	for i, o := range a.Obs {
		samples[i] = sampleOf(o)
	}
	return nil, samples, api.OK
}

func (m *Manager) released(a api.Apdu) ([]api.Apdu, []api.Sample, api.Errno) {
	m.leave()
	return one(api.Apdu{Kind: api.ApduDone, Reason: a.Reason}), nil, api.OK
}

func (m *Manager) aborted(api.Apdu) ([]api.Apdu, []api.Sample, api.Errno) {
	m.leave()
	return nil, nil, api.OK
}

func (m *Manager) breakOff(api.Apdu) ([]api.Apdu, []api.Sample, api.Errno) {
	m.leave()
	return one(api.Apdu{Kind: api.ApduAbort}), nil, api.ErrState
}

// operate makes a manager that has these objects, and nothing of what it knew while it was Asking.
func (m *Manager) operate(objects []api.Object) {
	places := make(map[int]int, len(objects))
	for i, o := range objects {
		places[o.Handle] = i
	}
	*m = Manager{made: true, state: Operating, objects: slices.Clone(objects), places: places}
}

// leave makes a manager as New does.
func (m *Manager) leave() {
	*m = *New()
}

func (m *Manager) has(o api.Obs) bool {
	place, known := m.places[o.Handle]
	return known && m.objects[place].Long == o.Long
}

func sampleOf(o api.Obs) api.Sample {
	value := real.Long(o.Bits)
	if !o.Long {
		value = real.Short(uint16(o.Bits))
	}
	return api.Sample{Handle: o.Handle, Value: value}
}

func one(a api.Apdu) []api.Apdu {
	return []api.Apdu{a}
}
