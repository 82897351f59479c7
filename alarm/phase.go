package alarm

import "handbell/api"

// phase is counted as package api counts its phases.
type phase int

const (
	quiet phase = iota
	raised
	acked
	latched
)

// move is what a step does by the phase and the condition, and tells what happened.
func (a *Alarm) move(active bool) int {
	switch {
	case active && (a.phase == quiet || a.phase == latched):
		return a.raise()
	case active && a.phase == raised:
		return a.last()
	case !active && a.phase == raised && a.spec.Latch:
		return a.fall(latched)
	case !active && (a.phase == raised || a.phase == acked):
		return a.fall(quiet)
	}
	return api.EventNone
}

// raise begins with the spec's priority, however grave it once was.
func (a *Alarm) raise() int {
	a.phase, a.priority, a.since = raised, a.spec.Priority, 0
	return api.EventRaised
}

// last is a further step of what is raised.
func (a *Alarm) last() int {
	if !grows(a.spec, a.priority) {
		return api.EventNone
	}
	a.since++
	if a.since < a.spec.Escalate {
		return api.EventNone
	}
	a.priority, a.since = a.priority+1, 0
	return api.EventGraver
}

// fall is to a phase in which the condition is not so; what is latched is shown as grave as it was.
func (a *Alarm) fall(to phase) int {
	a.phase, a.since = to, 0
	if to == quiet {
		a.priority = 0
	}
	return api.EventOver
}

// wait is a step of a pause, if there is one.
func (a *Alarm) wait() int {
	if a.pause == 0 {
		return api.EventNone
	}
	a.pause--
	if a.pause > 0 {
		return api.EventNone
	}
	return api.EventResume
}

// grows tells whether what counts so now becomes graver as it lasts.
func grows(s api.AlarmSpec, priority int) bool {
	return s.Escalate > 0 && priority < high
}

// mayStand tells it of a state, of a spec that may be.
func mayStand(s api.AlarmSpec, x api.AlarmState) bool {
	if x.Pause < 0 || x.Pause > longest {
		return false
	}
	switch phase(x.Phase) {
	case quiet:
		return x.Priority == 0 && x.Since == 0
	case raised:
		return mayCount(s, x.Priority) && mayLast(s, x)
	case acked:
		return mayCount(s, x.Priority) && x.Since == 0
	case latched:
		return s.Latch && mayCount(s, x.Priority) && x.Since == 0
	}
	return false
}

// mayCount tells it of a priority, in any phase but quiet.
func mayCount(s api.AlarmSpec, priority int) bool {
	if s.Escalate == 0 {
		return priority == s.Priority
	}
	return priority >= s.Priority && priority <= high
}

// mayLast tells it of what is raised.
func mayLast(s api.AlarmSpec, x api.AlarmState) bool {
	return x.Since == 0 || x.Since > 0 && x.Since < s.Escalate && grows(s, x.Priority)
}
