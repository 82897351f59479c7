package filter

import (
	"handbell/api"
	"handbell/average"
	"handbell/beats"
	"handbell/iir"
	"handbell/median"
)

// inner is what is inside a filter at work: a number that is pushed makes a value, or an error where there is none. A median, a mean and a slow number have it as they are.
type inner interface {
	Push(v int) (int, api.Errno)
}

// insideOf is what is inside a filter that begins anew; the layers below tell by which N there is one, and beside their errors it is of no use.
func insideOf(f api.Filter) (inner, api.Errno) {
	switch f.Kind {
	case api.FilterPlain:
		return newPlain(f.N)
	case api.FilterMedian:
		return median.New(f.N)
	case api.FilterAverage:
		return average.New(f.N)
	case api.FilterSlow:
		return iir.New(f.N)
	case api.FilterBeats:
		return newPulse(f.N)
	}
	return nil, api.ErrArg
}

// plain lets numbers through as they are.
type plain struct{}

func newPlain(n int) (plain, api.Errno) {
	if n != 0 {
		return plain{}, api.ErrArg
	}
	return plain{}, api.OK
}

func (plain) Push(v int) (int, api.Errno) {
	return v, api.OK
}

// pulse makes beats of numbers.
type pulse struct {
	*beats.Beats
	tick int // at which numbers are pushed
}

func newPulse(n int) (*pulse, api.Errno) {
	b, e := beats.New(n)
	return &pulse{Beats: b}, e
}

// Push leaves it to Beat to refuse a further beat at a tick: only the first one counts.
func (p *pulse) Push(v int) (int, api.Errno) {
	if v > 0 {
		p.Beat(p.tick)
	}
	rate, ok := p.Rate()
	if !ok {
		return 0, api.ErrEmpty
	}
	return rate, api.OK
}
