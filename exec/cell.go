package exec

// Cell is what a partition has at its turn. It points to the turn, so that a copy of it is no second turn.
type Cell struct{ turn *turn }

// Use takes so many steps: whether there were as many; Get is what a link last brought, Put what goes into one; Fail is a fault.
func (c *Cell) Use(n int) bool {
	if c.isNone() || c.turn.isStopped() || n < 0 {
		return false
	}
	if n > c.turn.steps-c.turn.Used {
		c.turn.Over = true
		return false
	}
	c.turn.Used += n
	return true
}

func (c *Cell) Get(link int) (int, bool) {
	if c.isNone() {
		return 0, false
	}
	l := c.turn.link(link)
	if l == nil || l.to != c.turn.Part {
		return 0, false
	}
	return l.value, l.has
}

func (c *Cell) Put(link, v int) bool {
	if c.isNone() || c.turn.isStopped() {
		return false
	}
	l := c.turn.link(link)
	if l == nil || l.from != c.turn.Part {
		return false
	}
	l.value, l.has = v, true
	return true
}

func (c *Cell) Fail() {
	if !c.isNone() {
		c.turn.Failed = true
	}
}

func (c *Cell) isNone() bool {
	return c == nil || c.turn == nil || c.turn.ended
}
