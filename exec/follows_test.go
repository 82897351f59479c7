package exec

import (
	"slices"
	"testing"
)

// player does things with an exec and with the model, and holds their answers against each other.
type player struct {
	*testing.T
	e     *Exec
	m     *model
	d     *dice
	cells []*Cell // all that ever were
	went  []Turn  // the turns of this tick, as the model has them
	seen  struct{ over, failed, both, got, put, stopped int }
}

// play is what a partition does at a turn.
func (p *player) play(part int) Task {
	return run(func(c *Cell) {
		p.m.add("began", part, 0)
		defer func() { p.went = append(p.went, p.m.turn()) }()
		p.cells = append(p.cells, c)
		for range p.d.below(10) {
			p.step(c)
		}
		if p.d.below(6) == 0 {
			p.m.add("failed", 0, 0)
			panic(part)
		}
	})
}

func (p *player) step(c *Cell) {
	link, v := p.d.below(len(p.m.links)+2)-1, pick(p.d, edges()...)
	switch p.d.below(12) {
	case 0, 1, 2:
		n := pick(p.d, -1, 0, 1, 2, 5, p.d.below(1000), v)
		uses(p.T, c, n, p.m.use(n))
	case 3, 4, 5:
		want, is := p.m.get(link)
		gets(p.T, c, link, want, is)
		if is {
			p.seen.got++
		}
	case 6, 7, 8:
		is := p.m.put(link, v)
		puts(p.T, c, link, v, is)
		if is {
			p.seen.put++
		} else if link >= 0 && link < len(p.m.links) && p.m.links[link][0] == p.m.turn().Part {
			p.seen.stopped++
		}
	case 9:
		if p.d.below(4) == 0 {
			c.Fail()
			p.m.add("failed", 0, 0)
		}
	case 10:
		refuses(p.T, p.e, make([]Task, p.d.below(9)), noPart)
	case 11:
		if old := pick(p.d, p.cells...); old != c {
			old.Fail()
			uses(p.T, old, 0, false)
			puts(p.T, old, link, v, false)
			gets(p.T, old, link, 0, false)
		}
	}
}

func (p *player) tick(n int) {
	tasks := make([]Task, len(p.m.steps))
	for part := range tasks {
		if p.d.below(5) > 0 {
			tasks[part] = p.play(part)
		}
	}
	p.went = nil
	l, err := p.e.Tick(tasks)
	var want []Turn
	for _, part := range p.m.frames[n%len(p.m.frames)] {
		if tasks[part] == nil {
			want = append(want, Turn{Part: part})
			continue
		}
		want, p.went = append(want, p.went[0]), p.went[1:]
	}
	if err != 0 || !slices.Equal(l, want) || len(p.went) > 0 {
		p.Fatalf("Tick = %v, %d; want %v", l, err, want)
	}
	p.count(l)
}

func (p *player) count(l []Turn) {
	for _, x := range l {
		if x.Used < 0 || x.Used > p.m.steps[x.Part] {
			p.Fatalf("%v, of %d steps", x, p.m.steps[x.Part])
		}
		if x.Over {
			p.seen.over++
		}
		if x.Failed {
			p.seen.failed++
		}
		if x.Over && x.Failed {
			p.seen.both++
		}
	}
}

// Any turns, in which anything is done in any order, against the chapter's words.
func TestP215Stories(t *testing.T) {
	p := &player{T: t}
	for seed := range 400 {
		p.d = &dice{uint64(seed)}
		x := p.d.some()
		p.e, p.m, p.cells = x.made(t), &model{table: x}, []*Cell{nil, {}}
		for n := range 25 {
			p.tick(n)
		}
	}
	if s := p.seen; s.over < 500 || s.failed < 500 || s.both < 100 || s.got < 500 || s.put < 500 || s.stopped < 500 {
		t.Errorf("%+v", s)
	}
}

// world has partitions each of which does what its own seed and what it gets lead to; the wild ones do besides all that they can do to others.
type world struct {
	*testing.T
	table
	e     *Exec
	seeds []int
	wild  []bool
	count []int // the turns that each partition has had
	log   []int // what the partition that is watched has seen
	watch int
	tasks []Task
	cells []*Cell
}

// watched is all that a partition sees in so many ticks, and how its turns went.
func watched(t *testing.T, x table, watch int, seeds []int, wild []bool) []int {
	w := &world{T: t, table: x, e: x.made(t), seeds: seeds, wild: wild, count: make([]int, len(x.steps)), watch: watch}
	for range 15 {
		w.tasks = make([]Task, len(x.steps))
		for part := range w.tasks {
			w.tasks[part] = run(func(c *Cell) { w.turn(part, c) })
		}
		l, err := w.e.Tick(w.tasks)
		if err != 0 {
			t.Fatal(err)
		}
		for _, turn := range l {
			if turn.Part == watch {
				w.note(watch, turn.Used, bit(turn.Over), bit(turn.Failed))
			}
		}
	}
	return w.log
}

func (w *world) turn(part int, c *Cell) {
	d := &dice{uint64(w.seeds[part]*1000 + w.count[part])}
	w.count[part]++
	w.note(part, w.count[part])
	w.cells = append(w.cells, c)
	for range 5 {
		for link := range w.links {
			v, is := c.Get(link)
			w.note(part, v, bit(is), bit(c.Use((v+d.below(3))%50)), bit(c.Put(link, v/2+d.below(100))))
		}
	}
	if w.wild[part] {
		w.rage(c)
	}
	switch d.below(8) {
	case 0:
		c.Fail()
	case 1:
		panic(part)
	case 2:
		c.Use(mostSteps + 1)
	}
}

// rage is all that a partition can do to others: with the list of tasks, with their cells, with the exec.
func (w *world) rage(c *Cell) {
	clear(w.tasks)
	refuses(w.T, w.e, w.tasks, noPart)
	for _, old := range w.cells[max(len(w.cells)-6, 0) : len(w.cells)-1] {
		old.Fail()
		uses(w.T, old, 1, false)
		for link := range w.links {
			puts(w.T, old, link, 98, false)
		}
	}
	for link := range w.links {
		c.Put(link, -99)
	}
	c.Fail()
}

func (w *world) note(part int, l ...int) {
	if part == w.watch {
		w.log = append(w.log, l...)
	}
}

func bit(is bool) int {
	if is {
		return 1
	}
	return 0
}

// A partition sees the same, whatever those do from which no links lead to it; as soon as others do something else, it may see it.
func TestP215Apart(t *testing.T) {
	var apart, over, differ int
	for seed := range 600 {
		d := &dice{uint64(seed)}
		x := d.some()
		x.links = x.links[:d.below(min(len(x.links), 6)+1)]
		watch := d.below(len(x.steps))
		seeds := make([]int, len(x.steps))
		for i := range seeds {
			seeds[i] = d.below(1 << 20)
		}
		want := watched(t, x, watch, seeds, make([]bool, len(seeds)))
		in := x.reach(watch)
		others, wild, within := slices.Clone(seeds), make([]bool, len(seeds)), slices.Clone(seeds)
		for i := range seeds {
			switch {
			case !in[i]:
				others[i], wild[i] = d.below(1<<20), true
				apart++
			case i != watch:
				within[i] = d.below(1 << 20)
				over++
			}
		}
		if got := watched(t, x, watch, others, wild); !slices.Equal(got, want) {
			t.Fatalf("%v: %d sees %v, and with others beside it %v", x, watch, want, got)
		}
		if got := watched(t, x, watch, within, make([]bool, len(seeds))); !slices.Equal(got, want) {
			differ++
		}
	}
	if apart < 1000 || over < 200 || differ < 50 {
		t.Errorf("%d apart, %d on which it hangs, %d that saw it", apart, over, differ)
	}
}

// Each of two turns in a row of one minor frame has its own steps, whatever is asked: never more are used than there are.
func TestP215NeverMoreSteps(t *testing.T) {
	for _, has := range []int{0, 1, 5, 100, mostSteps} {
		for seed := range 200 {
			d := &dice{uint64(seed)}
			used := 0
			e := table{[][]int{{0}}, []int{has}, nil}.made(t)
			l, err := e.Tick([]Task{run(func(c *Cell) {
				for range 50 {
					n := pick(d, append(edges(), d.below(10), d.below(10), d.below(mostSteps))...)
					if c.Use(n) {
						used += n
					}
				}
			})})
			if err != 0 || l[0].Used != used || used > has || used < 0 {
				t.Fatalf("of %d steps: %v, %d used", has, l, used)
			}
		}
	}
}

// What was put is there, however that turn ends, and however later ones of the same partition go.
func TestP215WhatWasPutStays(t *testing.T) {
	ends := append(faults(), nil, run(func(*Cell) {}), run((*Cell).Fail), run(func(c *Cell) { c.Use(4) }), run(func(c *Cell) { c.Use(4); c.Put(0, 8); panic(0) }), run(func(c *Cell) { c.Fail(); c.Put(0, 8) }))
	for _, end := range ends {
		for _, later := range ends {
			e := table{[][]int{{0, 1, 1}}, []int{3, 3}, [][2]int{{0, 1}}}.made(t)
			reader := run(func(c *Cell) { gets(t, c, 0, 7, true) })
			e.Tick([]Task{run(func(c *Cell) {
				puts(t, c, 0, 6, true)
				puts(t, c, 0, 7, true)
				if end != nil {
					end.Run(c)
				}
			}), reader})
			for range 2 {
				l, err := e.Tick([]Task{later, reader})
				if err != 0 || len(l) != 3 || l[1] != (Turn{Part: 1}) || l[2] != (Turn{Part: 1}) {
					t.Fatal(l, err)
				}
			}
		}
	}
}

// The same tasks see and answer the same, whatever is done to other execs between.
func TestR2Same(t *testing.T) {
	for seed := range 50 {
		d := &dice{uint64(seed)}
		x := d.some()
		seeds := make([]int, len(x.steps))
		for i := range seeds {
			seeds[i] = d.below(1 << 20)
		}
		want := watched(t, x, 0, seeds, make([]bool, len(seeds)))
		watched(t, x, 0, slices.Repeat([]int{7}, len(seeds)), slices.Repeat([]bool{true}, len(seeds)))
		if got := watched(t, x, 0, seeds, make([]bool, len(seeds))); !slices.Equal(got, want) {
			t.Fatal("not the same")
		}
	}
}
