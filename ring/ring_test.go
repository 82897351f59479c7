package ring

import (
	"math"
	"slices"
	"testing"

	"handbell/api"
)

// made is a ring with room for n.
func made(t *testing.T, n int) *Ring {
	t.Helper()
	r, e := New(n)
	if r == nil || e != 0 {
		t.Fatalf("New(%d) = %v, %d", n, r, e)
	}
	return r
}

func put(t *testing.T, r *Ring, all ...int) {
	t.Helper()
	for _, v := range all {
		if e := r.Put(v); e != 0 {
			t.Fatalf("Put(%d) = %d", v, e)
		}
	}
}

func take(t *testing.T, r *Ring, v, lost int) {
	t.Helper()
	if gotV, gotLost, e := r.Take(); gotV != v || gotLost != lost || e != 0 {
		t.Fatalf("Take() = %d, %d, %d; want %d, %d, 0", gotV, gotLost, e, v, lost)
	}
}

// refused is a Take that takes nothing.
func refused(t *testing.T, r *Ring, e api.Errno) {
	t.Helper()
	if v, lost, got := r.Take(); v != 0 || lost != 0 || got != e {
		t.Fatalf("Take() = %d, %d, %d; want 0, 0, %d", v, lost, got, e)
	}
}

// stands asks twice: to be asked changes nothing.
func stands(t *testing.T, r *Ring, count, lost int) {
	t.Helper()
	for range 2 {
		if r.Len() != count || r.Lost() != lost {
			t.Fatalf("Len() = %d, Lost() = %d; want %d, %d", r.Len(), r.Lost(), count, lost)
		}
	}
}

// upTo are the numbers from one to another.
func upTo(from, to int) []int {
	var out []int
	for v := from; v <= to; v++ {
		out = append(out, v)
	}
	return out
}

// model is the section 'Words' said again.
type model struct {
	room        int
	in          []int
	since, lost int // since the last one that was taken, and in all
}

func (w *model) put(v int) {
	if len(w.in) == w.room {
		w.in = w.in[1:]
		w.since++
		w.lost++
	}
	w.in = append(w.in, v)
}

func (w *model) take() (v, lost int, e api.Errno) {
	if len(w.in) == 0 {
		return 0, 0, 8
	}
	v, lost = w.in[0], w.since
	w.in, w.since = w.in[1:], 0
	return v, lost, 0
}

// both does the same to a ring and to the model, and holds them against each other.
func both(t *testing.T, r *Ring, w *model, puts bool, v int) {
	t.Helper()
	if puts {
		put(t, r, v)
		w.put(v)
	} else if v, lost, e := w.take(); e == 0 {
		take(t, r, v, lost)
	} else {
		refused(t, r, e)
	}
	stands(t, r, len(w.in), w.lost)
}

// dice are numbers without an order to be seen, the same ones for the same seed.
type dice struct{ x uint64 }

func (d *dice) below(n int) int {
	d.x = d.x*6364136223846793005 + 1442695040888963407
	return int(d.x >> 33 % uint64(n))
}

func rooms() []int { return []int{1, 2, 5, 16} }

func TestP81New(t *testing.T) {
	for n := 1; n <= 16; n++ {
		r := made(t, n)
		stands(t, r, 0, 0)
		refused(t, r, 8)
		put(t, r, upTo(1, n)...)
		stands(t, r, n, 0)
		put(t, r, n+1)
		stands(t, r, n, 1)
	}
	if api.MaxQueue != 16 {
		t.Errorf("MaxQueue is %d", api.MaxQueue)
	}
}

func TestP81NewOfWhatMayNotBe(t *testing.T) {
	for _, n := range []int{0, 17, 18, -1, -2, -16, 32, 1 << 16, 1 << 32, 1<<32 + 1, math.MinInt, math.MinInt + 1, math.MaxInt} {
		if r, e := New(n); r != nil || e != 2 {
			t.Errorf("New(%d) = %v, %d; want none, 2", n, r, e)
		}
	}
}

func TestP81EachRingHasItsOwn(t *testing.T) {
	a, b := made(t, 2), made(t, 2)
	put(t, a, 1, 2, 3)
	stands(t, b, 0, 0)
	refused(t, b, 8)
	put(t, b, 7)
	take(t, a, 2, 1)
	stands(t, b, 1, 0)
	take(t, b, 7, 0)
	take(t, a, 3, 0)
}

func TestP81NoRing(t *testing.T) {
	for name, r := range map[string]*Ring{"nil": nil, "zero": {}} {
		t.Run(name, func(t *testing.T) {
			for range 20 {
				for _, v := range []int{0, 1, -1, math.MinInt, math.MaxInt} {
					if e := r.Put(v); e != 1 {
						t.Errorf("Put(%d) = %d; want 1", v, e)
					}
				}
				stands(t, r, 0, 0)
				refused(t, r, 1)
			}
		})
	}
}

func TestP82Examples(t *testing.T) {
	r := made(t, 2)
	put(t, r, 1, 2, 3)
	stands(t, r, 2, 1)
	take(t, r, 2, 1)
	put(t, r, 4, 5)
	take(t, r, 4, 1)
	take(t, r, 5, 0)
	refused(t, r, 8)
	stands(t, r, 0, 2)
}

func TestP82TakeOfARingWithoutNumbers(t *testing.T) {
	for _, n := range rooms() {
		r := made(t, n)
		refused(t, r, 8)
		refused(t, r, 8)
		stands(t, r, 0, 0)
		put(t, r, upTo(1, n+3)...)
		take(t, r, 4, 3)
		for v := 5; v <= n+3; v++ {
			take(t, r, v, 0)
		}
		for range 3 {
			refused(t, r, 8)
			stands(t, r, 0, 3)
		}
		put(t, r, 9)
		take(t, r, 9, 0)
		stands(t, r, 0, 3)
	}
}

func TestP82PutWhereThereIsRoomForOneMore(t *testing.T) {
	for _, n := range rooms() {
		r := made(t, n)
		put(t, r, upTo(1, n-1)...)
		stands(t, r, n-1, 0)
		put(t, r, n)
		stands(t, r, n, 0)
		for v := 1; v <= n; v++ {
			take(t, r, v, 0)
			stands(t, r, n-v, 0)
		}
	}
}

func TestP82PutWhereThereIsNoRoom(t *testing.T) {
	for _, n := range rooms() {
		for _, more := range []int{1, 2, n - 1, n, n + 1, 2 * n, 7*n + 3, 1000} {
			r := made(t, n)
			for v := 1; v <= n+more; v++ {
				put(t, r, v)
				stands(t, r, min(v, n), max(v-n, 0))
			}
			lost := more
			for v := more + 1; v <= more+n; v++ {
				take(t, r, v, lost)
				stands(t, r, more+n-v, more)
				lost = 0
			}
			refused(t, r, 8)
			stands(t, r, 0, more)
		}
	}
}

// TestP82LossesBetweenTakes: each Take tells of those behind the one ahead of it, Lost of all.
func TestP82LossesBetweenTakes(t *testing.T) {
	r := made(t, 5)
	put(t, r, upTo(1, 8)...)
	take(t, r, 4, 3)
	take(t, r, 5, 0)
	put(t, r, upTo(9, 14)...)
	stands(t, r, 5, 7)
	take(t, r, 10, 4)
	put(t, r, 15)
	stands(t, r, 5, 7)
	take(t, r, 11, 0)
	put(t, r, 16, 17)
	take(t, r, 13, 1)
	stands(t, r, 4, 8)
	for _, v := range []int{14, 15, 16, 17} {
		take(t, r, v, 0)
	}
	refused(t, r, 8)
	put(t, r, upTo(18, 24)...)
	take(t, r, 20, 2)
	stands(t, r, 4, 10)
}

func TestP82RoomForOne(t *testing.T) {
	r := made(t, 1)
	put(t, r, 1)
	take(t, r, 1, 0)
	put(t, r, 2, 3)
	stands(t, r, 1, 1)
	take(t, r, 3, 1)
	put(t, r, 4, 5, 6)
	take(t, r, 6, 2)
	refused(t, r, 8)
	stands(t, r, 0, 3)
}

func TestP82GoneAround(t *testing.T) {
	for _, n := range rooms() {
		for _, held := range upTo(1, n) {
			r := made(t, n)
			put(t, r, upTo(1, held)...)
			for v := range 5 * n {
				take(t, r, v+1, 0)
				put(t, r, v+1+held)
				stands(t, r, held, 0)
			}
		}
	}
}

func TestP82AnyNumber(t *testing.T) {
	all := []int{0, -1, math.MinInt, math.MaxInt, 1, 0, 0, -1, math.MaxInt, math.MinInt, 1 << 32, -1 << 31}
	for _, n := range rooms() {
		r := made(t, n)
		for _, v := range all {
			put(t, r, v)
			take(t, r, v, 0)
		}
		put(t, r, all...)
		lost := max(len(all)-n, 0)
		stands(t, r, min(len(all), n), lost)
		for i, v := range all[lost:] {
			if i == 0 {
				take(t, r, v, lost)
			} else {
				take(t, r, v, 0)
			}
		}
		refused(t, r, 8)
	}
}

// TestP82EachOrder is every order of 12 puts and takes, from a ring that already has so many.
func TestP82EachOrder(t *testing.T) {
	for _, n := range rooms() {
		for _, held := range slices.Compact([]int{0, n / 2, n - 1, n}) {
			for order := range 1 << 12 {
				r, w := made(t, n), &model{room: n}
				for v := range held {
					both(t, r, w, true, -v)
				}
				for i := range 12 {
					both(t, r, w, order>>i&1 == 1, 100+i)
				}
			}
		}
	}
}

// TestP82Stories are long, and lean to puts and to takes by turns, so that rings are full and empty again and again.
func TestP82Stories(t *testing.T) {
	for _, n := range rooms() {
		full, empty := 0, 0
		for seed := range 100 {
			d := &dice{uint64(seed)}
			r, w := made(t, n), &model{room: n}
			lean := 5
			for range 500 {
				if d.below(30) == 0 {
					lean = 1 + d.below(9)
				}
				puts := d.below(10) < lean
				if puts && len(w.in) == n {
					full++
				} else if !puts && len(w.in) == 0 {
					empty++
				}
				both(t, r, w, puts, d.below(1<<30)-1<<29)
			}
		}
		if full < 500 || empty < 500 {
			t.Errorf("room for %d: %d puts of full rings, %d takes of empty ones", n, full, empty)
		}
	}
}
