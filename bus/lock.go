package bus

// lock is set where nobody has said otherwise, so the zero one is set.
type lock struct {
	freed bool // and not set since
	at    int  // the tick at which it was freed last
}

func (l *lock) freeAt(tick int) { *l = lock{freed: true, at: tick} }

func (l *lock) set() { *l = lock{} }

// isFree is asked of no tick below the one at which the lock was freed, so that the difference is a number of ticks.
func (l lock) isFree(tick, ticks int) bool {
	return l.freed && tick-l.at < ticks
}
