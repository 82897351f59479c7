package exec

import (
	"math"
	"runtime"
	"slices"
	"testing"
	"weak"

	"handbell/api"
)

func TestP211Examples(t *testing.T) {
	for i, x := range []struct {
		table
		want api.Errno
	}{
		{table{nil, []int{5}, nil}, api.ErrArg},
		{table{[][]int{{0}}, nil, nil}, api.ErrArg},
		{table{[][]int{{2}}, []int{5, 3}, nil}, api.ErrPart},
		{table{[][]int{{0}}, []int{5}, [][2]int{{0, 1}}}, api.ErrPart},
	} {
		if e, err := New(x.frames, x.steps, x.links); e != nil || err != x.want {
			t.Errorf("%d: New = %v, %d", i, e, err)
		}
	}
}

func TestP212Examples(t *testing.T) {
	e := example.made(t)
	reader := run(func(c *Cell) {
		v, is := c.Get(0)
		if v != 7 || !is {
			t.Errorf("Get = %d, %v", v, is)
		}
		c.Use(v)
	})
	ticks(t, e, []Task{run(func(c *Cell) {
		uses(t, c, 2, true)
		puts(t, c, 0, 7, true)
	}), reader}, Turn{Part: 0, Used: 2}, Turn{Part: 1, Over: true})
	ticks(t, e, []Task{nil, run(func(c *Cell) {
		gets(t, c, 0, 7, true)
		uses(t, c, 3, true)
		puts(t, c, 0, 8, false)
	})}, Turn{Part: 1, Used: 3})
	ticks(t, e, []Task{run(func(c *Cell) {
		uses(t, c, 4, true)
		c.Fail()
		puts(t, c, 0, 9, false)
	}), run(func(c *Cell) { gets(t, c, 0, 7, true) })}, Turn{Part: 0, Used: 4, Failed: true}, Turn{Part: 1})
	refuses(t, e, nil, api.ErrArg)
}

// example is the table of the chapter's examples.
var example = table{[][]int{{0, 1}, {1}}, []int{5, 3}, [][2]int{{0, 1}}}

func TestTheNumbersOfTheDocument(t *testing.T) {
	if api.ErrNil != noExec || api.ErrArg != badArg || api.ErrMany != tooMany || api.ErrPart != noPart {
		t.Error("the errors' numbers")
	}
}

func news(t *testing.T, x table) {
	t.Helper()
	e, err := New(x.frames, x.steps, x.links)
	if want := x.wanted(); err != want || (e != nil) != (want == 0) {
		t.Errorf("New(%v, %v, %v) = %v, %d; want %d", x.frames, x.steps, x.links, e, err, want)
	}
}

func TestP211HowMany(t *testing.T) {
	for frames := range mostFrames + 3 {
		for parts := range mostParts + 3 {
			for turns := range mostTurns + 3 {
				for _, links := range []int{0, 1, mostLinks - 1, mostLinks, mostLinks + 1, 100} {
					x := table{make([][]int, frames), make([]int, parts), make([][2]int, links)}
					if frames > 0 {
						x.frames[frames-1] = make([]int, turns)
					}
					news(t, x)
				}
			}
		}
	}
	news(t, table{make([][]int, 1<<20), make([]int, 1), nil})
	news(t, table{make([][]int, 1), make([]int, 1<<20), nil})
	news(t, table{[][]int{make([]int, 1<<20)}, make([]int, 1), nil})
	news(t, table{make([][]int, 1), make([]int, 1), make([][2]int, 1<<20)})
}

// Each number, at each place, may be wrong.
func TestP211WrongNumbers(t *testing.T) {
	for parts := 1; parts <= mostParts; parts++ {
		for _, v := range edges() {
			for at := range parts {
				x := table{[][]int{{0}}, make([]int, parts), nil}
				x.steps[at] = v
				news(t, x)
			}
			for at := range 6 {
				x := table{[][]int{{0, 0}, {}, {0}, {0, 0, 0}}, make([]int, parts), nil}
				*[]*int{&x.frames[0][0], &x.frames[0][1], &x.frames[2][0], &x.frames[3][0], &x.frames[3][1], &x.frames[3][2]}[at] = v
				news(t, x)
			}
			for at := range 4 {
				x := table{[][]int{{0}}, make([]int, parts), make([][2]int, 2)}
				x.links[at/2][at%2] = v
				news(t, x)
			}
		}
	}
}

// Where several things are wrong, the first one is told: frame by frame, how many ahead of which ones.
func TestP211InOrder(t *testing.T) {
	far, nine, many := []int{5}, make([]int, 9), make([][2]int, 17)
	for _, x := range []struct {
		table
		want api.Errno
	}{
		{table{nil, nil, many}, badArg},
		{table{nil, []int{-1}, nil}, badArg},
		{table{[][]int{nine}, []int{-1}, many}, badArg},
		{table{[][]int{far}, []int{1, mostSteps + 1}, many}, badArg},
		{table{[][]int{far}, make([]int, 9), nil}, badArg},
		{table{[][]int{far, nine}, []int{1}, nil}, noPart},
		{table{[][]int{nine, far}, []int{1}, nil}, tooMany},
		{table{[][]int{append(nine, 5)}, []int{1}, nil}, tooMany},
		{table{[][]int{{0}, far}, []int{1}, many}, noPart},
		{table{[][]int{{0}}, []int{1}, append(many, [2]int{9, 9})}, tooMany},
	} {
		news(t, x.table)
		if x.wanted() != x.want {
			t.Errorf("%v is %d, not %d", x.table, x.wanted(), x.want)
		}
	}
}

// Tables that may be, with some things brought to or over their edges.
func TestP211AnyTables(t *testing.T) {
	seen := map[api.Errno]int{}
	for seed := range 20000 {
		d := &dice{uint64(seed)}
		x := d.some()
		for range d.below(4) {
			switch d.below(6) {
			case 0:
				x.frames = slices.Repeat(x.frames, 1+d.below(6))
			case 1:
				x.steps = slices.Repeat(x.steps, 1+d.below(3))
			case 2:
				x.links = slices.Repeat(x.links, 1+d.below(3))
			case 3:
				x.steps[d.below(len(x.steps))] = pick(d, edges()...)
			case 4:
				at := d.below(len(x.frames))
				x.frames[at] = append(slices.Clone(x.frames[at]), d.below(10)-1)
			case 5:
				x.links = append(x.links, [2]int{d.below(10) - 1, d.below(10) - 1})
			}
		}
		news(t, x)
		seen[x.wanted()]++
	}
	if len(seen) != 4 || seen[0] < 1000 || seen[badArg] < 1000 || seen[tooMany] < 1000 || seen[noPart] < 1000 {
		t.Error(seen)
	}
}

// A new exec is at its first minor frame, and its links have nothing.
func TestP211AtFirst(t *testing.T) {
	x := table{[][]int{{1}, {0}}, []int{0, 4}, [][2]int{{0, 1}, {1, 1}, {1, 0}}}
	ticks(t, x.made(t), []Task{nil, run(func(c *Cell) {
		for link := range x.links {
			gets(t, c, link, 0, false)
		}
		uses(t, c, 4, true)
	})}, Turn{Part: 1, Used: 4})
}

// Of no exec a Tick is ErrNil, whatever it is handed.
func TestP212NoExec(t *testing.T) {
	for _, e := range []*Exec{nil, {}} {
		for n := range 10 {
			refuses(t, e, make([]Task, n), noExec)
		}
		refuses(t, e, nil, noExec)
	}
}

// As many tasks as partitions, not as the minor frame has; what is refused has called nobody, and leaves it where it is.
func TestP212HowManyTasks(t *testing.T) {
	for parts := 1; parts <= mostParts; parts++ {
		e := table{[][]int{{0}, {parts - 1, 0}, {}}, make([]int, parts), nil}.made(t)
		never := run(func(*Cell) { t.Error("a task was called") })
		wants := [][]Turn{{{Part: 0}}, {{Part: parts - 1}, {Part: 0}}, {}}
		at := 0
		for n := range 12 {
			if n != parts {
				refuses(t, e, slices.Repeat([]Task{never}, n), badArg)
				ticks(t, e, make([]Task, parts), wants[at%3]...)
				at++
			}
		}
		refuses(t, e, nil, badArg)
		ticks(t, e, make([]Task, parts), wants[at%3]...)
	}
}

// The minor frames come one behind the other, and round again; a partition has as many turns as it stands there, each with its own task.
func TestP212InOrder(t *testing.T) {
	for seed := range 300 {
		x := (&dice{uint64(seed)}).some()
		e := x.made(t)
		var called []int
		tasks := make([]Task, len(x.steps))
		for p := range tasks {
			tasks[p] = run(func(*Cell) { called = append(called, p) })
		}
		for tick := range 3*len(x.frames) + 1 {
			want := x.frames[tick%len(x.frames)]
			called = nil
			l, err := e.Tick(tasks)
			if err != 0 || len(l) != len(want) || !slices.Equal(called, want) {
				t.Fatalf("%v at the tick %d: %v, %d; called %v", x.frames, tick, l, err, called)
			}
			for i, p := range want {
				if l[i] != (Turn{Part: p}) {
					t.Fatalf("%v", l)
				}
			}
		}
	}
}

func TestP212GreatestTable(t *testing.T) {
	x := table{steps: slices.Repeat([]int{mostSteps}, mostParts), links: slices.Repeat([][2]int{{7, 0}}, mostLinks)}
	for range mostFrames {
		x.frames = append(x.frames, []int{0, 1, 2, 3, 4, 5, 6, 7})
	}
	e := x.made(t)
	tasks := slices.Repeat([]Task{run(func(c *Cell) {
		uses(t, c, mostSteps, true)
		c.Put(15, 4)
	})}, mostParts)
	for range 2*mostFrames + 1 {
		l, err := e.Tick(tasks)
		if err != 0 || len(l) != mostTurns {
			t.Fatal(l, err)
		}
		for p, turn := range l {
			if turn != (Turn{Part: p, Used: mostSteps}) {
				t.Fatal(l)
			}
		}
	}
}

// pointed may be called of a nil pointer, which is a task all the same; valued may not.
type pointed struct{ n int }

func (p *pointed) Run(c *Cell) { c.Use(1) }

type valued struct{ n int }

func (v valued) Run(c *Cell) { c.Use(v.n) }

func TestP212NilTasks(t *testing.T) {
	e := table{[][]int{{0, 1, 2, 3}}, []int{9, 9, 9, 9}, nil}.made(t)
	var noPointed *pointed
	var noValued *valued
	ticks(t, e, []Task{nil, noPointed, noValued, valued{3}}, Turn{}, Turn{Part: 1, Used: 1}, Turn{Part: 2, Failed: true}, Turn{Part: 3, Used: 3})
	ticks(t, e, []Task{run(nil), nil, nil, nil}, Turn{Failed: true}, Turn{Part: 1}, Turn{Part: 2}, Turn{Part: 3})
}

// Each turn has all the steps, whatever an earlier one of the same partition used or did.
func TestP212EachTurnAnew(t *testing.T) {
	e := table{[][]int{{0, 0, 0, 0, 0}}, []int{5}, nil}.made(t)
	turns := 0
	ticks(t, e, []Task{run(func(c *Cell) {
		turns++
		uses(t, c, 5, true)
		switch turns {
		case 2:
			uses(t, c, 1, false)
		case 3:
			c.Fail()
		case 4:
			panic(turns)
		}
	})}, Turn{Used: 5}, Turn{Used: 5, Over: true}, Turn{Used: 5, Failed: true}, Turn{Used: 5, Failed: true}, Turn{Used: 5})
}

// While a Tick is under way another one of the same exec is refused, whatever is handed in; of another exec it is not.
func TestP212WhileOneIsUnderWay(t *testing.T) {
	x := table{[][]int{{0, 1, 0}, {1}}, []int{5, 5}, [][2]int{{0, 0}}}
	e, other := x.made(t), x.made(t)
	inside := 0
	task := run(func(c *Cell) {
		inside++
		never := run(func(*Cell) { t.Error("a task was called") })
		refuses(t, e, nil, noPart)
		refuses(t, e, []Task{never, never}, noPart)
		refuses(t, e, []Task{never, never, never}, noPart)
		done := make(chan []Turn)
		go func() {
			l, _ := e.Tick([]Task{never, never})
			done <- l
		}()
		if l := <-done; len(l) > 0 {
			t.Error(l)
		}
		uses(t, c, 3, true)
		if inside == 1 {
			both := run(func(in *Cell) {
				uses(t, in, 5, true)
				gets(t, in, 0, 0, false)
				uses(t, c, 1, true)
			})
			ticks(t, other, []Task{both, nil}, Turn{Used: 5}, Turn{Part: 1}, Turn{Used: 5})
		}
	})
	ticks(t, e, []Task{task, nil}, Turn{Used: 5}, Turn{Part: 1}, Turn{Used: 3})
	if inside != 2 {
		t.Errorf("%d turns", inside)
	}
	ticks(t, e, []Task{task, nil}, Turn{Part: 1})
	ticks(t, other, []Task{nil, nil}, Turn{Part: 1})
}

// Behind a Tick none is under way, however its tasks ended.
func TestP212NoneIsUnderWay(t *testing.T) {
	e := table{[][]int{{0}}, []int{1}, nil}.made(t)
	for _, task := range faults() {
		ticks(t, e, []Task{task}, Turn{Failed: true})
		ticks(t, e, []Task{nil}, Turn{})
	}
	var kept *Cell
	gone := make(chan int)
	go func() {
		defer close(gone)
		e.Tick([]Task{run(func(c *Cell) {
			kept = c
			runtime.Goexit()
		})})
	}()
	<-gone
	isDead(t, kept)
	ticks(t, e, []Task{run(func(c *Cell) { uses(t, c, 1, true) })}, Turn{Used: 1})
}

// own is an error, which a task may throw as well as anything else.
type own struct{}

func (own) Error() string { panic("asked what it says") }

// faults are tasks that panic, each in another way.
func faults() []Task {
	return []Task{
		run(func(*Cell) { panic("text") }),
		run(func(*Cell) { panic(nil) }),
		run(func(*Cell) { panic(own{}) }),
		run(func(*Cell) { panic(api.ErrArg) }),
		run(func(*Cell) { var m map[int]int; m[0] = 1 }),
		run(func(*Cell) { var l []int; l[len(l)] = 1 }),
		run(func(*Cell) { var n int; _ = 1 / n }),
		run(func(*Cell) { var in Task; in.Run(nil) }),
		run(func(*Cell) {
			defer func() { panic("again") }()
			panic("once")
		}),
	}
}

// A panic that the task catches itself is none.
func TestP212CaughtWithin(t *testing.T) {
	e := table{[][]int{{0}}, []int{2}, nil}.made(t)
	ticks(t, e, []Task{run(func(c *Cell) {
		defer func() {
			recover()
			uses(t, c, 1, true)
		}()
		uses(t, c, 1, true)
		panic("within")
	})}, Turn{Used: 2})
}

func TestP213NoCell(t *testing.T) {
	isDead(t, nil)
	isDead(t, &Cell{})
}

// Cells of turns that are over do nothing, also at later turns of the same partition and of others, however they ended.
func TestP213TurnIsOver(t *testing.T) {
	e := table{[][]int{{0, 1, 0}}, []int{9, 9}, [][2]int{{0, 0}, {0, 1}, {1, 0}}}.made(t)
	var kept []*Cell
	allDead := func() {
		for _, old := range kept {
			isDead(t, old)
		}
	}
	before := func(c *Cell) {
		allDead()
		kept = append(kept, c)
		uses(t, c, 9, true)
	}
	over, failed := Turn{Used: 9, Over: true}, Turn{Used: 9, Failed: true}
	ends, wants := faults(), slices.Repeat([]Turn{failed}, len(faults()))
	ends = append(ends, run(func(*Cell) {}), run(func(c *Cell) { c.Use(1) }), run((*Cell).Fail))
	wants = append(wants, Turn{Used: 9}, over, failed)
	for i, end := range ends {
		writer := run(func(c *Cell) {
			before(c)
			puts(t, c, 0, i, true)
			puts(t, c, 1, -i, true)
			end.Run(c)
		})
		reader := run(func(c *Cell) {
			before(c)
			gets(t, c, 1, -i, true)
		})
		ticks(t, e, []Task{writer, reader}, wants[i], Turn{Part: 1, Used: 9}, wants[i])
		allDead()
		ticks(t, e, []Task{run(func(c *Cell) {
			allDead()
			gets(t, c, 0, i, true)
			uses(t, c, 9, true)
		}), nil}, Turn{Used: 9}, Turn{Part: 1}, Turn{Used: 9})
	}
}

// A copy of a cell is the same turn's.
func TestP213CopiedCell(t *testing.T) {
	e := table{[][]int{{0}}, []int{5}, [][2]int{{0, 0}}}.made(t)
	var twin Cell
	ticks(t, e, []Task{run(func(c *Cell) {
		twin = *c
		uses(t, c, 3, true)
		uses(t, &twin, 2, true)
		uses(t, c, 1, false)
		puts(t, &twin, 0, 1, false)
	})}, Turn{Used: 5, Over: true})
	isDead(t, &twin)
}

// Each number of steps is asked at once, of each number that a partition may have.
func TestP213Use(t *testing.T) {
	for _, has := range []int{0, 1, 2, 5, 1<<20 - 1, 1 << 20} {
		for _, first := range edges() {
			for _, then := range edges() {
				e := table{[][]int{{0}}, []int{has}, nil}.made(t)
				var want Turn
				ticked := run(func(c *Cell) {
					for _, n := range []int{first, then} {
						may := n >= 0 && !want.Over && n <= has-want.Used
						uses(t, c, n, may)
						want.Over = want.Over || n >= 0 && !may
						if may {
							want.Used += n
						}
					}
				})
				if l, err := e.Tick([]Task{ticked}); err != 0 || len(l) != 1 || l[0] != want {
					t.Fatalf("of %d: %d, then %d: %v, want %v", has, first, then, l, want)
				}
			}
		}
	}
}

// All steps are used one by one; nought of them is one that is always left.
func TestP213UseToTheLast(t *testing.T) {
	for _, has := range []int{0, 1, 7, 1000} {
		e := table{[][]int{{0}}, []int{has}, nil}.made(t)
		ticks(t, e, []Task{run(func(c *Cell) {
			for range has {
				uses(t, c, 1, true)
				uses(t, c, 0, true)
				uses(t, c, -1, false)
			}
			uses(t, c, 0, true)
		})}, Turn{Used: has})
		ticks(t, e, []Task{run(func(c *Cell) {
			uses(t, c, has+1, false)
			uses(t, c, 0, false)
			uses(t, c, 1, false)
		})}, Turn{Over: true})
	}
}

// A turn that is over its steps, or has failed, neither uses nor puts, but gets; over its steps it may fail, too, but what has failed is not over its steps later on.
func TestP213Stopped(t *testing.T) {
	e := table{[][]int{{0}}, []int{5}, [][2]int{{0, 0}}}.made(t)
	ticks(t, e, []Task{run(func(c *Cell) { puts(t, c, 0, -3, true) })}, Turn{})
	over := func(c *Cell) { uses(t, c, 6, false) }
	for _, x := range []struct {
		stop func(c *Cell)
		want Turn
	}{
		{over, Turn{Used: 1, Over: true}},
		{(*Cell).Fail, Turn{Used: 1, Failed: true}},
		{func(c *Cell) { over(c); c.Fail() }, Turn{Used: 1, Over: true, Failed: true}},
		{func(c *Cell) { c.Fail(); over(c) }, Turn{Used: 1, Failed: true}},
		{func(c *Cell) { c.Fail(); c.Fail() }, Turn{Used: 1, Failed: true}},
	} {
		ticks(t, e, []Task{run(func(c *Cell) {
			uses(t, c, 1, true)
			x.stop(c)
			for _, n := range edges() {
				uses(t, c, n, false)
				puts(t, c, 0, n, false)
			}
			gets(t, c, 0, -3, true)
		})}, x.want)
		x.want.Failed = true
		ticks(t, e, []Task{run(func(c *Cell) {
			uses(t, c, 1, true)
			x.stop(c)
			panic("too")
		})}, x.want)
	}
}

// A link that there is not, or whose end is another partition, neither has nor takes a number.
func TestP213WhichLinks(t *testing.T) {
	for seed := range 200 {
		d := &dice{uint64(seed)}
		x := d.some()
		x.frames = [][]int{{d.below(len(x.steps))}, {d.below(len(x.steps))}}
		e := x.made(t)
		m := &model{table: x}
		for tick := range 20 {
			m.add("began", x.frames[tick%2][0], 0)
			task := run(func(c *Cell) {
				for _, link := range append(edges(), 6, 10, 11, 12, 13, 14, len(x.links)) {
					v, is := m.get(link)
					gets(t, c, link, v, is)
					puts(t, c, link, tick, m.put(link, tick))
					v, is = m.get(link)
					gets(t, c, link, v, is)
				}
			})
			ticks(t, e, slices.Repeat([]Task{task}, len(x.steps)), Turn{Part: x.frames[tick%2][0]})
		}
	}
}

// Any number goes through a link, 0 too; the last one counts, and it is got again and again.
func TestP213AnyNumber(t *testing.T) {
	e := table{[][]int{{0, 1, 1}, {1}}, []int{0, 0}, [][2]int{{0, 1}, {0, 1}, {1, 1}}}.made(t)
	for _, v := range append(edges(), 0) {
		reader := run(func(c *Cell) {
			gets(t, c, 0, v, true)
			gets(t, c, 0, v, true)
			gets(t, c, 1, 77, true)
			puts(t, c, 2, v, true)
			gets(t, c, 2, v, true)
			puts(t, c, 2, 4, true)
			gets(t, c, 2, 4, true)
		})
		ticks(t, e, []Task{run(func(c *Cell) {
			puts(t, c, 0, 5, true)
			puts(t, c, 1, 77, true)
			puts(t, c, 0, v, true)
			gets(t, c, 0, 0, false)
		}), reader}, Turn{}, Turn{Part: 1}, Turn{Part: 1})
		ticks(t, e, []Task{nil, reader}, Turn{Part: 1})
	}
}

// What New was handed may be written over, in its spare room too; it is as it was before.
func TestP214NewKeepsNothing(t *testing.T) {
	x := table{
		append(make([][]int, 0, 4), append(make([]int, 0, 4), 0, 1), append(make([]int, 0, 4), 1)),
		append(make([]int, 0, 4), 5, 3),
		append(make([][2]int, 0, 4), [2]int{0, 1}),
	}
	e := x.made(t)
	if !slices.EqualFunc(x.frames[:3], [][]int{{0, 1}, {1}, nil}, slices.Equal) || !slices.Equal(x.frames[1][:4], []int{1, 0, 0, 0}) ||
		!slices.Equal(x.steps[:4], []int{5, 3, 0, 0}) || !slices.Equal(x.links[:4], [][2]int{{0, 1}, {}, {}, {}}) {
		t.Errorf("New has changed %v", x)
	}
	for _, parts := range x.frames {
		copy(parts[:4], []int{1, 0, 9, 9})
	}
	copy(x.frames[:4], [][]int{nil, {0, 0}, {9}})
	copy(x.steps[:4], []int{0, 0, 7, 7})
	copy(x.links[:4], [][2]int{{1, 0}, {0, 1}})
	for range 3 {
		ticks(t, e, []Task{run(func(c *Cell) {
			uses(t, c, 5, true)
			puts(t, c, 0, 1, true)
			puts(t, c, 1, 1, false)
		}), run(func(c *Cell) { uses(t, c, 3, true); gets(t, c, 0, 1, true) })}, Turn{Used: 5}, Turn{Part: 1, Used: 3})
		ticks(t, e, []Task{nil, nil}, Turn{Part: 1})
	}
}

// What a Tick answers stays as it was answered; it may be written into and grown, and neither the exec nor another answer feels it.
func TestP214NewMemory(t *testing.T) {
	e := example.made(t)
	var kept [][]Turn
	for n := range 8 {
		l, err := e.Tick([]Task{run(func(c *Cell) { c.Use(n % 6) }), run(func(c *Cell) { c.Use(2) })})
		if err != 0 {
			t.Fatal(err)
		}
		if n >= 4 {
			clear(l[:cap(l)])
			_ = append(l, Turn{Part: 9})
			continue
		}
		kept = append(kept, l)
	}
	for n, l := range kept {
		if want := []Turn{{Part: 0, Used: n}, {Part: 1, Used: 2}}; !slices.Equal(l, want[n%2:]) {
			t.Errorf("what was answered at the tick %d is now %v", n, l)
		}
	}
	ticks(t, e, []Task{nil, nil}, Turn{}, Turn{Part: 1})
}

// A list of tasks is as it was before, its spare room too; behind the Tick it may be written over.
func TestP214TasksAreOnlyRead(t *testing.T) {
	e := example.made(t)
	a, b, spare := &pointed{1}, &pointed{2}, &pointed{3}
	for range 3 {
		tasks := append(make([]Task, 0, 3), a, b)
		tasks[:3][2] = spare
		ticks(t, e, tasks, Turn{Used: 1}, Turn{Part: 1, Used: 1})
		if !slices.Equal(tasks[:3], []Task{a, b, spare}) {
			t.Error(tasks[:3])
		}
		clear(tasks[:3])
		ticks(t, e, []Task{a, nil}, Turn{Part: 1})
	}
}

// big is a task that stands alone in memory, so that it can be told when it is gone.
type big struct {
	own  *big
	room [100]int
	cell **Cell
}

func (b *big) Run(c *Cell) { *b.cell = c }

// Behind a Tick no task is kept, not by the exec, and not by a cell that somebody has.
func TestP214TasksAreNotKept(t *testing.T) {
	e := example.made(t)
	var cell *Cell
	var gone []weak.Pointer[big]
	hand := func(tick func(tasks []Task)) {
		b := &big{cell: &cell}
		gone = append(gone, weak.Make(b))
		tick([]Task{b, b})
	}
	hand(func(tasks []Task) { ticks(t, e, tasks, Turn{}, Turn{Part: 1}) })
	hand(func(tasks []Task) { ticks(t, e, tasks, Turn{Part: 1}) })
	hand(func(tasks []Task) { refuses(t, e, tasks[:1], badArg) })
	runtime.GC()
	for i, p := range gone {
		if p.Value() != nil {
			t.Errorf("the tasks of the Tick %d are kept", i)
		}
	}
	runtime.KeepAlive(e)
	runtime.KeepAlive(cell)
}

func TestR1FarNumbers(t *testing.T) {
	e := table{[][]int{{0}}, []int{mostSteps}, [][2]int{{0, 0}}}.made(t)
	ticks(t, e, []Task{run(func(c *Cell) {
		for _, n := range []int{math.MinInt, math.MaxInt, math.MaxInt - 1} {
			gets(t, c, n, 0, false)
			puts(t, c, n, n, false)
		}
		uses(t, c, 1, true)
		uses(t, c, math.MaxInt, false)
	})}, Turn{Used: 1, Over: true})
}
