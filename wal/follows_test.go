package wal

import (
	"bytes"
	"fmt"
	"math"
	"slices"
	"testing"

	"handbell/api"
	"handbell/block"
)

// player does things with a log and with the model, and holds their answers, and all that their devices have, against each other.
type player struct {
	*testing.T
	r     *dice
	mine  *block.Device
	other *block.Device
	l     *Log
	m     *model
	log   int
	seen  map[string]int
}

func (p *player) told(what string, e, want api.Errno) {
	p.Helper()
	answers(p.T, what, e, want)
	p.seen[fmt.Sprint(what, int(e))]++
}

func (p *player) open(sectors int) {
	l, e := Open(p.mine, sectors)
	m, want := opened(p.other, sectors)
	p.told("open", e, want)
	if (l == nil) != (e != 0) {
		p.Fatal(l, int(e))
	}
	if l != nil {
		p.l, p.m = l, m
	}
}

// both does something with both devices.
func (p *player) both(do func(*block.Device) api.Errno) {
	p.Helper()
	answers(p.T, "device", do(p.mine), do(p.other))
}

func (p *player) boot() {
	l := p.r.choices(p.mine.Sectors())
	p.both(func(d *block.Device) api.Errno { return d.Boot(l[:len(l)/2]) })
}

func (p *player) step() {
	n := p.mine.Sectors()
	switch p.r.below(24) {
	case 0, 1:
		p.open(p.log)
	case 2:
		p.open(pick(p.r, p.r.below(n+2), p.log, pick(p.r, edges()...)))
	case 3, 4, 5:
		i := pick(p.r, p.log+p.r.below(n-p.log), p.r.below(n+2)-1, pick(p.r, edges()...))
		b, e := p.l.Read(i)
		want, wantE := p.m.read(i)
		if !bytes.Equal(b, want) {
			p.Fatalf("Read(%d) = %x, not %x", i, b, want)
		}
		p.told("read", e, wantE)
	case 6, 7:
		p.told("checkpoint", p.l.Checkpoint(), p.m.checkpoint())
	case 8, 9:
		k := pick(p.r, p.r.below(12), p.r.below(12), p.r.below(60), -1)
		p.both(func(d *block.Device) api.Errno { return d.Arm(k) })
	case 10, 11:
		p.boot()
	case 12:
		p.both((*block.Device).Crash)
	case 13:
		if p.r.below(3) == 0 {
			p.disturb()
		}
	default:
		w := p.writes()
		p.told("commit", p.l.Commit(w...), p.m.commit(w...))
	}
}

// disturb writes to the device what a log might have there, or anything.
func (p *player) disturb() {
	i, b, stamp := p.r.below(p.mine.Sectors()), p.r.sector(), p.r.below(40)
	w := p.r.writes(1+p.r.below(min(2, p.mine.Sectors()-p.log)), p.log, p.mine.Sectors())
	l := pick(p.r, [][]byte{b}, [][]byte{head(stamp)}, record(stamp, w...), [][]byte{between(math.MaxInt32 - p.r.below(3))})
	for k, b := range l {
		if i+k < p.mine.Sectors() {
			p.both(func(d *block.Device) api.Errno { return d.Write(i+k, b) })
		}
	}
}

// writes are often such as may be committed.
func (p *player) writes() []Write {
	homes := p.mine.Sectors() - p.log
	w := p.r.writes(1+p.r.below(min(homes, pick(p.r, 2, 4, atOnce))), p.log, p.mine.Sectors())
	switch p.r.below(14) {
	case 0:
		return slices.Repeat(w, 1+p.r.below(9))
	case 1:
		w[p.r.below(len(w))].Sector = pick(p.r, p.r.below(p.log), pick(p.r, edges()...))
	case 2:
		w[p.r.below(len(w))].Data = make([]byte, p.r.below(130))
	case 3:
		return w[:0]
	}
	return w
}

func (p *player) look() {
	if p.mine.Dead() != p.other.Dead() {
		p.Fatal("one device is dead")
	}
	if !p.mine.Dead() && !same(contents(p.T, p.mine), contents(p.T, p.other)) {
		p.Fatal("the devices are not alike")
	}
}

// Any calls in any order, against the chapter's words; also of two logs of one device, one behind the other, and with strangers' writes.
func TestP231Stories(t *testing.T) {
	p := &player{T: t, seen: map[string]int{}}
	for seed := range 1500 {
		p.r = &dice{uint64(seed)}
		p.log = pick(p.r, 4, 5, 6, 7, 8, 10, 12, 17, 18, 20, 40)
		n := p.log + pick(p.r, 1, 2, 3, 4, 9, 20)
		p.mine, p.other = device(t, n), device(t, n)
		p.l, p.m = nil, nil
		p.open(p.log)
		for range 60 {
			p.step()
			p.look()
		}
		p.boot()
		p.look()
	}
	for _, what := range []string{
		"open0", "open2", "open220", "open230", "read0", "read2", "read220", "checkpoint0", "checkpoint220", "commit0", "commit2", "commit5", "commit220",
	} {
		if p.seen[what] < 200 {
			t.Errorf("%s: %d times", what, p.seen[what])
		}
	}
}

// plan is a story of commits; a nil one is a checkpoint.
type plan struct {
	log, homes int
	commits    [][]Write
}

func planOf(r *dice, log, homes, commits int) plan {
	x := plan{log: log, homes: homes}
	for range commits {
		var w []Write
		if r.below(6) > 0 {
			w = r.writes(1+r.below(min(homes, (log-2)/2, atOnce)), log, log+homes)
		}
		x.commits = append(x.commits, w)
	}
	return x
}

// states are what the home sectors have ahead of the first commit, behind it, behind the second one, and so on.
func (x plan) states() [][][]byte {
	now := slices.Repeat([][]byte{all(0)}, x.homes)
	l := [][][]byte{now}
	for _, w := range x.commits {
		now = slices.Clone(now)
		for _, y := range w {
			now[y.Sector-x.log] = y.Data
		}
		l = append(l, now)
	}
	return l
}

// goes makes commits from one on till the power goes; it tells how many were answered.
func (x plan) goes(l *Log, from int) int {
	for i := from; i < len(x.commits); i++ {
		call := func() api.Errno { return l.Commit(x.commits[i]...) }
		if x.commits[i] == nil {
			call = l.Checkpoint
		}
		if call() != 0 {
			return i
		}
	}
	return len(x.commits)
}

// homesOf are the home sectors as the log reads them.
func homesOf(t *testing.T, l *Log, x plan) [][]byte {
	t.Helper()
	var homes [][]byte
	for i := range x.homes {
		b, e := l.Read(x.log + i)
		answers(t, "Read", e, 0)
		homes = append(homes, b)
	}
	return homes
}

// survives lets the power go behind n operations, boots, opens as often as the power goes there too, and finds all or nothing of each commit; it tells whether the power went.
func survives(t *testing.T, x plan, n int, r *dice, choices func() []int, again func() int) bool {
	t.Helper()
	d := device(t, x.log+x.homes)
	answers(t, "Arm", d.Arm(n), 0)
	l, e := Open(d, x.log)
	done := 0
	if e == 0 {
		done = x.goes(l, 0)
	}
	if !d.Dead() {
		return false
	}
	states := x.states()
	for {
		boots(t, d, choices()...)
		answers(t, "Arm", d.Arm(again()), 0)
		l, e = Open(d, x.log)
		if e == 0 {
			break
		}
		answers(t, "Open", e, noPower)
	}
	answers(t, "Arm", d.Arm(-1), 0)
	homes := homesOf(t, l, x)
	if !same(homes, states[done]) && (done == len(x.commits) || !same(homes, states[done+1])) {
		t.Fatalf("behind %d operations and %d commits: %x", n, done, homes)
	}
	if done < len(x.commits) && same(homes, states[done+1]) {
		done++ // it was under way, and is whole
	}
	if x.goes(l, done) != len(x.commits) || !same(homesOf(t, l, x), states[len(x.commits)]) {
		t.Fatal("it does not go on")
	}
	boots(t, d, choices()...)
	if !same(homesOf(t, opens(t, d, x.log), x), states[len(x.commits)]) {
		t.Fatal("what was committed is gone")
	}
	return true
}

// Wherever the power goes, while opening too: each commit that answered OK is there, and of the one under way all or nothing.
func TestP236Power(t *testing.T) {
	for seed := range 40 {
		r := &dice{uint64(seed)}
		x := planOf(r, pick(r, 4, 5, 6, 8, 11, 12, 20), 1+r.below(6), 3+r.below(8))
		choices := func() []int { return r.choices(x.log + x.homes) }
		again := func() int { return pick(r, -1, r.below(4), r.below(12), r.below(30)) }
		n := 0
		for survives(t, x, n, r, choices, again) {
			n++
		}
		if n < 5 {
			t.Fatal(n)
		}
	}
}

// Each moment, with each choice for all sectors that were not flushed.
func TestP236EachChoice(t *testing.T) {
	r := &dice{7}
	x := planOf(r, 8, 3, 6)
	for choice := range 189 {
		choices := func() []int { return slices.Repeat([]int{choice}, x.log+x.homes) }
		for n := 0; survives(t, x, n, r, choices, func() int { return -1 }); n++ {
		}
	}
}

// Each moment of the second opening, and of the third one, which goes on with what the second one left.
func TestP236WhileOpening(t *testing.T) {
	r := &dice{11}
	x := planOf(r, 12, 4, 5)
	for second := range 14 {
		for third := range 14 {
			for n := 0; ; n++ {
				left := []int{second, third}
				again := func() int {
					if len(left) == 0 {
						return -1
					}
					a := left[0]
					left = left[1:]
					return a
				}
				if !survives(t, x, n, r, func() []int { return r.choices(x.log + x.homes) }, again) {
					break
				}
			}
		}
	}
}

// Stamps that go over a byte's end may stand torn in the log as greater ones than any that was written: still nothing false is read.
func TestP236TornStamps(t *testing.T) {
	for seed := range 30 {
		r := &dice{uint64(seed)}
		x := planOf(r, 5, 2, 4)
		for range 40 {
			d := device(t, 7)
			l := opens(t, d, 5)
			for range 248 + r.below(8) {
				commits(t, l, 0, Write{5, all(0)})
				if r.below(40) == 0 {
					l = opens(t, d, 5)
				}
			}
			answers(t, "Arm", d.Arm(r.below(20)), 0)
			done := x.goes(l, 0)
			boots(t, d, r.choices(7)...)
			homes := homesOf(t, opens(t, d, 5), x)
			states := x.states()
			if !same(homes, states[done]) && (done == 4 || !same(homes, states[done+1])) {
				t.Fatalf("%x", homes)
			}
		}
	}
}

// Logs of two devices have nothing to do with one another.
func TestR2Apart(t *testing.T) {
	a, b := device(t, 9), device(t, 9)
	x, y := opens(t, a, 5), opens(t, b, 5)
	commits(t, x, 0, to(5, 1))
	reads(t, y, 5, all(0))
	answers(t, "Crash", a.Crash(), 0)
	commits(t, x, noPower, to(6, 1))
	commits(t, y, 0, to(6, 2))
	reads(t, y, 6, marked(2))
	boots(t, a)
	x = opens(t, a, 5)
	reads(t, x, 5, marked(1))
	reads(t, x, 6, all(0))
}

// The same calls have the same answers, and leave the same behind.
func TestR2Same(t *testing.T) {
	story := func(seed int) []string {
		var told []string
		r := &dice{uint64(seed)}
		d := device(t, 30)
		l := opens(t, d, 12)
		for range 40 {
			switch r.below(8) {
			case 0:
				told = append(told, fmt.Sprint(int(l.Checkpoint())))
			case 1:
				d.Arm(r.below(30))
			case 2:
				d.Boot(r.choices(30))
				var e api.Errno
				l, e = Open(d, 12)
				told = append(told, fmt.Sprint(int(e)))
			case 3:
				b, e := l.Read(12 + r.below(18))
				told = append(told, fmt.Sprint(b, int(e)))
			default:
				told = append(told, fmt.Sprint(int(l.Commit(r.writes(1+r.below(6), 12, 30)...))))
			}
		}
		boots(t, d, r.choices(30)...)
		return append(told, fmt.Sprint(contents(t, d)))
	}
	for seed := range 40 {
		if !slices.Equal(story(seed), story(seed)) {
			t.Fatal(seed)
		}
	}
}
