package exec

import (
	"math"
	"slices"
	"testing"

	"handbell/api"
)

// Bounds and errors, by their numbers.
const (
	mostFrames = 16
	mostTurns  = 8
	mostParts  = 8
	mostSteps  = 1048576
	mostLinks  = 16

	noExec  = 1
	badArg  = 2
	tooMany = 6
	noPart  = 210
)

// table is what an exec is made of.
type table struct {
	frames [][]int
	steps  []int
	links  [][2]int
}

func (x table) made(t *testing.T) *Exec {
	t.Helper()
	e, err := New(x.frames, x.steps, x.links)
	if e == nil || err != 0 {
		t.Fatalf("New(%v, %v, %v) = %v, %d", x.frames, x.steps, x.links, e, err)
	}
	return e
}

// wanted is P21.1 said again: of each thing that is looked at, in order, what it is if it may not be.
func (x table) wanted() api.Errno {
	var found []api.Errno
	look := func(is bool, e api.Errno) {
		if !is {
			found = append(found, e)
		}
	}
	isPart := func(p int) bool { return p >= 0 && p < len(x.steps) }
	look(len(x.frames) >= 1 && len(x.frames) <= mostFrames, badArg)
	look(len(x.steps) >= 1 && len(x.steps) <= mostParts, badArg)
	for _, n := range x.steps {
		look(n >= 0 && n <= mostSteps, badArg)
	}
	for _, parts := range x.frames {
		look(len(parts) <= mostTurns, tooMany)
		for _, p := range parts {
			look(isPart(p), noPart)
		}
	}
	look(len(x.links) <= mostLinks, tooMany)
	for _, l := range x.links {
		look(isPart(l[0]), noPart)
		look(isPart(l[1]), noPart)
	}
	if len(found) > 0 {
		return found[0]
	}
	return 0
}

// reach are those on which a partition hangs: itself, and those from which links lead to it, over others too.
func (x table) reach(part int) []bool {
	in := make([]bool, len(x.steps))
	in[part] = true
	for range x.links {
		for _, l := range x.links {
			if in[l[1]] {
				in[l[0]] = true
			}
		}
	}
	return in
}

// event is something that a partition did at its turn.
type event struct {
	what      string // began, used, over, failed, put
	at, value int    // the partition or the link; the steps or the number
}

// model is P21.3 said again: it keeps all that ever happened, and finds its answers there.
type model struct {
	table
	story []event
}

func (m *model) add(what string, at, value int) {
	m.story = append(m.story, event{what, at, value})
}

// turn is how the turn that began last has gone so far.
func (m *model) turn() Turn {
	var t Turn
	for _, x := range slices.Backward(m.story) {
		switch x.what {
		case "began":
			t.Part = x.at
			return t
		case "used":
			t.Used += x.value
		case "over":
			t.Over = true
		case "failed":
			t.Failed = true
		}
	}
	return t
}

func (m *model) use(n int) bool {
	t := m.turn()
	if n < 0 || t.Over || t.Failed {
		return false
	}
	if n > m.steps[t.Part]-t.Used {
		m.add("over", 0, 0)
		return false
	}
	m.add("used", 0, n)
	return true
}

func (m *model) get(link int) (int, bool) {
	if link < 0 || link >= len(m.links) || m.links[link][1] != m.turn().Part {
		return 0, false
	}
	for _, x := range slices.Backward(m.story) {
		if x.what == "put" && x.at == link {
			return x.value, true
		}
	}
	return 0, false
}

func (m *model) put(link, v int) bool {
	t := m.turn()
	if link < 0 || link >= len(m.links) || m.links[link][0] != t.Part || t.Over || t.Failed {
		return false
	}
	m.add("put", link, v)
	return true
}

// run is a task that is a function.
type run func(c *Cell)

func (f run) Run(c *Cell) { f(c) }

// ticks holds what a Tick answers against what is said of it.
func ticks(t *testing.T, e *Exec, tasks []Task, want ...Turn) {
	t.Helper()
	if l, err := e.Tick(tasks); !slices.Equal(l, want) || err != 0 {
		t.Fatalf("Tick = %v, %d; want %v", l, err, want)
	}
}

func refuses(t *testing.T, e *Exec, tasks []Task, want api.Errno) {
	t.Helper()
	if l, err := e.Tick(tasks); len(l) > 0 || err != want {
		t.Fatalf("Tick = %v, %d; want %d", l, err, want)
	}
}

func uses(t *testing.T, c *Cell, n int, want bool) {
	t.Helper()
	if is := c.Use(n); is != want {
		t.Errorf("Use(%d) = %v", n, is)
	}
}

func puts(t *testing.T, c *Cell, link, v int, want bool) {
	t.Helper()
	if is := c.Put(link, v); is != want {
		t.Errorf("Put(%d, %d) = %v", link, v, is)
	}
}

func gets(t *testing.T, c *Cell, link, want int, wantIs bool) {
	t.Helper()
	if v, is := c.Get(link); v != want || is != wantIs {
		t.Errorf("Get(%d) = %d, %v; want %d, %v", link, v, is, want, wantIs)
	}
}

// isDead asks for all that a cell can do: of one that is none, it is nothing.
func isDead(t *testing.T, c *Cell) {
	t.Helper()
	c.Fail()
	for _, x := range edges() {
		uses(t, c, x, false)
		gets(t, c, x, 0, false)
		puts(t, c, x, 5, false)
	}
}

// dice throws numbers, always the same ones.
type dice struct{ x uint64 }

func (d *dice) below(n int) int {
	d.x = d.x*6364136223846793005 + 1442695040888963407
	return int(d.x >> 33 % uint64(n))
}

func pick[T any](d *dice, l ...T) T { return l[d.below(len(l))] }

// some is any table that may be.
func (d *dice) some() table {
	x := table{frames: make([][]int, 1+d.below(5)), steps: make([]int, 1+d.below(mostParts)), links: make([][2]int, d.below(mostLinks+1))}
	for i := range x.steps {
		x.steps[i] = pick(d, 0, 1, 3, 10, 1000, mostSteps)
	}
	for i := range x.frames {
		for range d.below(mostTurns + 1) {
			x.frames[i] = append(x.frames[i], d.below(len(x.steps)))
		}
	}
	for i := range x.links {
		x.links[i] = [2]int{d.below(len(x.steps)), d.below(len(x.steps))}
	}
	return x
}

// edges are numbers about which a bound may be misplaced, and far ones.
func edges() []int {
	return []int{
		math.MinInt, math.MinInt + 1, math.MinInt32, -1048577, -16, -2, -1, 0, 1, 2, 3, 4, 5, 7, 8, 9, 15, 16, 17,
		1<<20 - 1, 1 << 20, 1<<20 + 1, math.MaxInt32, 1 << 32, 1<<32 + 1, math.MaxInt - 1, math.MaxInt,
	}
}
