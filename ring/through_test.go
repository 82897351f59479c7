package ring

import "testing"

// book says how many were put and taken, and which one was taken last: the k-th number that is put is k.
type book struct{ puts, takes, last int }

func (b *book) put(t *testing.T, r *Ring) {
	t.Helper()
	b.puts++
	put(t, r, b.puts)
	b.adds(t, r)
}

// take holds what is taken against those that were put: as many are missing just ahead of it as are told to be lost.
func (b *book) take(t *testing.T, r *Ring) {
	t.Helper()
	there := r.Len()
	v, lost, e := r.Take()
	if there == 0 {
		if v != 0 || lost != 0 || e != 8 {
			t.Fatalf("Take() = %d, %d, %d of an empty ring", v, lost, e)
		}
	} else {
		if e != 0 || lost < 0 || v != b.last+lost+1 || v > b.puts {
			t.Fatalf("Take() = %d, %d, %d behind %d of %d", v, lost, e, b.last, b.puts)
		}
		b.takes, b.last = b.takes+1, v
	}
	b.adds(t, r)
}

func (b *book) adds(t *testing.T, r *Ring) {
	t.Helper()
	if b.puts != b.takes+r.Lost()+r.Len() {
		t.Fatalf("%d were put, %d taken, %d lost, %d are there", b.puts, b.takes, r.Lost(), r.Len())
	}
}

// empties takes till there is none: the last one that was put is the last one that is taken.
func (b *book) empties(t *testing.T, r *Ring) {
	t.Helper()
	for r.Len() > 0 {
		b.take(t, r)
	}
	if b.last != b.puts {
		t.Fatalf("%d were put, and %d was the last one", b.puts, b.last)
	}
}

func TestP83WhatIsTakenIsWhatWasPut(t *testing.T) {
	for _, n := range rooms() {
		lost := 0
		for seed := range 200 {
			d := &dice{uint64(seed)}
			r, b := made(t, n), &book{}
			for range 60 {
				for range d.below(n + 3) {
					b.put(t, r)
				}
				for range d.below(n + 3) {
					b.take(t, r)
				}
			}
			b.empties(t, r)
			lost += r.Lost()
		}
		if lost < 1000 {
			t.Errorf("room for %d: only %d were lost", n, lost)
		}
	}
}

func TestP83AllThatIsToldAddsUp(t *testing.T) {
	for _, n := range rooms() {
		d := &dice{uint64(n)}
		r := made(t, n)
		told := 0
		for range 2000 {
			if d.below(3) > 0 {
				put(t, r, d.below(9))
				continue
			}
			_, lost, _ := r.Take()
			if told += lost; told != r.Lost() {
				t.Fatalf("%d were told to be lost, Lost() = %d", told, r.Lost())
			}
		}
		if told < 200 {
			t.Errorf("room for %d: only %d were lost", n, told)
		}
	}
}

// TestP83NoneIsLost where each time no more are put than there is room for.
func TestP83NoneIsLost(t *testing.T) {
	for n := 1; n <= 16; n++ {
		d := &dice{uint64(n)}
		r, b := made(t, n), &book{}
		for range 500 {
			for range d.below(n - r.Len() + 1) {
				b.put(t, r)
			}
			for range d.below(n + 1) {
				b.take(t, r)
			}
			if r.Lost() != 0 {
				t.Fatalf("room for %d: %d were lost", n, r.Lost())
			}
		}
		b.empties(t, r)
	}
}

// TestP83NoneIsLostOfAsManyAsThereIsRoomFor: so many at once, all of which are taken before the next ones are put.
func TestP83NoneIsLostOfAsManyAsThereIsRoomFor(t *testing.T) {
	for n := 1; n <= 16; n++ {
		for many := 1; many <= n; many++ {
			r, b := made(t, n), &book{}
			for range 40 {
				for range many {
					b.put(t, r)
				}
				b.empties(t, r)
				stands(t, r, 0, 0)
			}
		}
	}
}
