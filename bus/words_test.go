package bus

import (
	"math"
	"slices"
	"testing"

	"handbell/api"
)

// Bounds and errors, by their numbers.
const (
	room = 16
	ears = 8
	keys = 4

	noBus    = 1
	badArg   = 2
	tooMany  = 6
	tooEarly = 9
	noTopic  = 200
)

// model is the chapter's words said again: it keeps all that ever happened, and finds its answers there.
type model struct {
	topics, free, clock int
	joined              []int   // the listeners' topics
	story               []event // all that happened, in order
}

type event struct {
	what  string // told, joined, heard, freed, set
	at    int    // the topic, listener or lock
	value int    // the number, or the tick
}

func (m *model) add(what string, at, value int) {
	m.story = append(m.story, event{what, at, value})
}

func (m *model) join(to int) (int, api.Errno) {
	if to < 0 || to >= m.topics {
		return 0, noTopic
	}
	if len(m.joined) >= ears {
		return 0, tooMany
	}
	m.joined = append(m.joined, to)
	m.add("joined", len(m.joined)-1, 0)
	return len(m.joined) - 1, 0
}

func (m *model) tell(to, v int) (int, api.Errno) {
	if to < 0 || to >= m.topics {
		return 0, noTopic
	}
	m.add("told", to, v)
	n := 0
	for _, x := range m.joined {
		if x == to {
			n++
		}
	}
	return n, 0
}

func (m *model) hear(l int) ([]int, int, api.Errno) {
	if l < 0 || l >= len(m.joined) {
		return nil, 0, badArg
	}
	var all []int
	for _, x := range m.story {
		switch {
		case x.at == l && (x.what == "joined" || x.what == "heard"):
			all = nil
		case x.at == m.joined[l] && x.what == "told":
			all = append(all, x.value)
		}
	}
	m.add("heard", l, 0)
	lost := max(len(all)-room, 0)
	return all[lost:], lost, 0
}

func (m *model) tick(lock, tick int) api.Errno {
	if lock < 0 || lock >= keys {
		return badArg
	}
	if tick < m.clock {
		return tooEarly
	}
	m.clock = tick
	return 0
}

func (m *model) freed(lock, tick int) api.Errno {
	e := m.tick(lock, tick)
	if e == 0 {
		m.add("freed", lock, tick)
	}
	return e
}

func (m *model) set(lock int) api.Errno {
	if lock < 0 || lock >= keys {
		return badArg
	}
	m.add("set", lock, 0)
	return 0
}

// locked looks for each of the ticks at which it may have been freed, behind the last time that it was set.
func (m *model) locked(lock, tick int) (bool, api.Errno) {
	if e := m.tick(lock, tick); e != 0 {
		return false, e
	}
	is := true
	for _, x := range m.story {
		if x.at != lock {
			continue
		}
		if x.what == "set" {
			is = true
		}
		for ahead := range m.free {
			if x.what == "freed" && x.value == tick-ahead {
				is = false
			}
		}
	}
	return is, 0
}

// pair is a bus beside the model: what is done is done to both, and must be answered alike.
type pair struct {
	*testing.T
	b *Bus
	m *model
}

func both(t *testing.T, topics, free int) pair {
	t.Helper()
	return pair{t, made(t, topics, free), &model{topics: topics, free: free}}
}

func made(t *testing.T, topics, free int) *Bus {
	t.Helper()
	b, e := New(topics, free)
	if b == nil || e != 0 {
		t.Fatalf("New(%d, %d) = %v, %d", topics, free, b, e)
	}
	return b
}

func (p pair) join(to int) {
	p.Helper()
	n, e := p.b.Join(to)
	if wantN, wantE := p.m.join(to); n != wantN || e != wantE {
		p.Fatalf("Join(%d) = %d, %d; want %d, %d", to, n, e, wantN, wantE)
	}
}

func (p pair) tell(to, v int) {
	p.Helper()
	n, e := p.b.Tell(to, v)
	if wantN, wantE := p.m.tell(to, v); n != wantN || e != wantE {
		p.Fatalf("Tell(%d, %d) = %d, %d; want %d, %d", to, v, n, e, wantN, wantE)
	}
}

func (p pair) hear(listener int) (heard, lost int) {
	p.Helper()
	l, lost, e := p.b.Hear(listener)
	if want, wantLost, wantE := p.m.hear(listener); !slices.Equal(l, want) || lost != wantLost || e != wantE {
		p.Fatalf("Hear(%d) = %v, %d, %d; want %v, %d, %d", listener, l, lost, e, want, wantLost, wantE)
	}
	return len(l), lost
}

func (p pair) free(lock, tick int) {
	p.Helper()
	if e, want := p.b.Free(lock, tick), p.m.freed(lock, tick); e != want {
		p.Fatalf("Free(%d, %d) = %d; want %d", lock, tick, e, want)
	}
}

func (p pair) set(lock int) {
	p.Helper()
	if e, want := p.b.Set(lock), p.m.set(lock); e != want {
		p.Fatalf("Set(%d) = %d; want %d", lock, e, want)
	}
}

func (p pair) locked(lock, tick int) bool {
	p.Helper()
	is, e := p.b.Locked(lock, tick)
	if want, wantE := p.m.locked(lock, tick); is != want || e != wantE {
		p.Fatalf("Locked(%d, %d) = %v, %d; want %v, %d", lock, tick, is, e, want, wantE)
	}
	return is
}

// hears and isLocked hold a bus against what is said of it, without the model.
func hears(t *testing.T, b *Bus, listener int, want []int, wantLost int, wantE api.Errno) {
	t.Helper()
	if l, lost, e := b.Hear(listener); !slices.Equal(l, want) || lost != wantLost || e != wantE {
		t.Fatalf("Hear(%d) = %v, %d, %d; want %v, %d, %d", listener, l, lost, e, want, wantLost, wantE)
	}
}

func isLocked(t *testing.T, b *Bus, lock, tick int, want bool, wantE api.Errno) {
	t.Helper()
	if is, e := b.Locked(lock, tick); is != want || e != wantE {
		t.Fatalf("Locked(%d, %d) = %v, %d; want %v, %d", lock, tick, is, e, want, wantE)
	}
}

func joins(t *testing.T, b *Bus, to, want int, wantE api.Errno) {
	t.Helper()
	if n, e := b.Join(to); n != want || e != wantE {
		t.Fatalf("Join(%d) = %d, %d; want %d, %d", to, n, e, want, wantE)
	}
}

func tells(t *testing.T, b *Bus, to, v, want int, wantE api.Errno) {
	t.Helper()
	if n, e := b.Tell(to, v); n != want || e != wantE {
		t.Fatalf("Tell(%d, %d) = %d, %d; want %d, %d", to, v, n, e, want, wantE)
	}
}

func frees(t *testing.T, b *Bus, lock, tick int, want api.Errno) {
	t.Helper()
	if e := b.Free(lock, tick); e != want {
		t.Fatalf("Free(%d, %d) = %d; want %d", lock, tick, e, want)
	}
}

func sets(t *testing.T, b *Bus, lock int, want api.Errno) {
	t.Helper()
	if e := b.Set(lock); e != want {
		t.Fatalf("Set(%d) = %d; want %d", lock, e, want)
	}
}

// upTo are the numbers from one to another.
func upTo(from, to int) []int {
	var out []int
	for v := from; v <= to; v++ {
		out = append(out, v)
	}
	return out
}

// dice throws numbers, always the same ones.
type dice struct{ x uint64 }

func (d *dice) below(n int) int {
	d.x = d.x*6364136223846793005 + 1442695040888963407
	return int(d.x >> 33 % uint64(n))
}

func pick[T any](d *dice, l ...T) T { return l[d.below(len(l))] }

// edges are numbers about which a bound may be misplaced, and far ones.
func edges() []int {
	return []int{
		math.MinInt, math.MinInt + 1, math.MinInt32, -101, -8, -4, -1, 0, 1, 2, 3, 4, 5, 7, 8, 9, 16, 17, 99, 100, 101, 256,
		math.MaxInt32, 1 << 32, 1<<32 + 1, 1<<32 + 3, math.MaxInt - 1, math.MaxInt,
	}
}
