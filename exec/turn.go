package exec

// link has the number that was put into it last, or none at first.
type link struct {
	from, to int
	value    int
	has      bool
}

// turn is a partition's, from when it is given till it is over.
type turn struct {
	Turn
	steps int    // as many as the partition has
	links []link // the exec's own
	ended bool
}

// give calls the task, if there is one. Whatever the task does, its turn has an end, and one that does not come back has failed.
func (t *turn) give(task Task) {
	back := false
	defer func() {
		// What was thrown is not asked, for it may be nil; whether Run came back tells the same.
		recover()
		if !back {
			t.Failed = true
		}
		t.ended = true
	}()
	if task != nil {
		task.Run(&Cell{turn: t})
	}
	back = true
}

func (t *turn) isStopped() bool {
	return t.Over || t.Failed
}

// link is nil where there is no such link.
func (t *turn) link(number int) *link {
	none := beyond(0, len(t.links)-1)
	if none(number) {
		return nil
	}
	return &t.links[number]
}
