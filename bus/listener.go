package bus

import (
	"handbell/api"
	"handbell/ring"
)

// listener is the ring of what it has not heard yet, of one topic.
type listener struct {
	*ring.Ring
	topic int
}

func listenTo(topic int) (listener, api.Errno) {
	r, e := ring.New(api.MaxQueue)
	if e != api.OK {
		return listener{}, e
	}
	return listener{Ring: r, topic: topic}, api.OK
}

// takeAll leaves the ring empty. As numbers are lost only where others are in, the takes tell of all that were lost since it was empty last.
func (l listener) takeAll() (all []int, lost int) {
	for range l.Len() {
		v, missing, _ := l.Take()
		all = append(all, v)
		lost += missing
	}
	return all, lost
}
