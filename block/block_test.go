package block

import (
	"bytes"
	"slices"
	"testing"

	"handbell/api"
)

func TestTheNumbersOfTheDocument(t *testing.T) {
	if api.ErrNil != noDevice || api.ErrArg != badArg || api.ErrDead != noPower || api.SectorSize != size || api.MaxSectors != mostSectors {
		t.Error("the numbers")
	}
}

func TestP221Examples(t *testing.T) {
	for _, n := range []int{0, 257} {
		if d, e := New(n); d != nil || e != badArg {
			t.Errorf("New(%d) = %v, %d", n, d, e)
		}
	}
}

func TestP222Examples(t *testing.T) {
	a, b := all(1), all(2)
	d := news(t, 2)
	writes(t, d, 0, a, 0)
	reads(t, d, 0, a)
	crashes(t, d)
	refusesRead(t, d, 0, noPower)
	answers(t, "Crash", d.Crash(), noPower)
	boots(t, d)
	reads(t, d, 0, all(0))

	d = news(t, 2)
	writes(t, d, 0, a, 0)
	flushes(t, d, 0)
	writes(t, d, 0, b, 0)
	writes(t, d, 1, b, 0)
	boots(t, d, 11, 1)
	reads(t, d, 0, slices.Concat(b[:4], a[:60]))
	reads(t, d, 1, b)

	d = news(t, 2)
	arms(t, d, 1)
	writes(t, d, 0, a, 0)
	writes(t, d, 1, a, noPower)
	isDead(t, d, true)
	flushes(t, d, noPower)
	boots(t, d, 1)
	reads(t, d, 0, a)

	writes(t, d, 2, a, badArg)
	writes(t, d, 0, a[:63], badArg)
	writes(t, d, -1, a, badArg)
}

func TestP221HowMany(t *testing.T) {
	for _, n := range append(edges(), 100, 1<<20) {
		d, e := New(n)
		if n < 1 || n > mostSectors {
			if d != nil || e != badArg {
				t.Errorf("New(%d) = %v, %d", n, d, e)
			}
			continue
		}
		if d == nil || e != 0 || d.Sectors() != n || d.Dead() {
			t.Fatalf("New(%d) = %v, %d", n, d, e)
		}
		for i := range n {
			reads(t, d, i, all(0))
		}
		refusesRead(t, d, n, badArg)
	}
}

// Of a device that is none all calls answer ErrNil, whatever they are handed, also once they have been called.
func TestP221NoDevice(t *testing.T) {
	for _, d := range []*Device{nil, {}, new(Device)} {
		for range 2 {
			for _, x := range edges() {
				refusesRead(t, d, x, noDevice)
				writes(t, d, x, all(1), noDevice)
				writes(t, d, x, nil, noDevice)
				answers(t, "Arm", d.Arm(x), noDevice)
				answers(t, "Boot", d.Boot([]int{x}), noDevice)
			}
			flushes(t, d, noDevice)
			answers(t, "Boot", d.Boot(nil), noDevice)
			answers(t, "Crash", d.Crash(), noDevice)
			isDead(t, d, false)
			if d.Sectors() != 0 {
				t.Error(d.Sectors())
			}
		}
	}
}

// Which sectors there are, and how long what is written must be; what is refused changes nothing.
func TestP222WrongArguments(t *testing.T) {
	for _, n := range []int{1, 2, 3, 63, 64, 65, 255, 256} {
		d := news(t, n)
		for i := range n {
			writes(t, d, i, marked(i), 0)
		}
		before := held(t, d)
		for _, i := range append(edges(), n-1, n, n+1) {
			is := i >= 0 && i < n
			for _, long := range []int{0, 1, 32, 63, 64, 65, 128, 1024} {
				if !is || long != size {
					writes(t, d, i, make([]byte, long), badArg)
				}
			}
			writes(t, d, i, all(9)[:63:64], badArg)
			writes(t, d, i, nil, badArg)
			if !is {
				refusesRead(t, d, i, badArg)
			}
		}
		if !same(held(t, d), before) {
			t.Fatal("a refused call changed something")
		}
		boots(t, d)
		for i := range n {
			reads(t, d, i, all(0))
		}
	}
}

// A call that is refused for what it is handed is no operation: it takes nothing off, and the power does not go.
func TestP222RefusedIsNoOperation(t *testing.T) {
	for n := range 4 {
		d := news(t, 2)
		arms(t, d, n)
		for range n + 1 {
			writes(t, d, 2, all(1), badArg)
			writes(t, d, -1, all(1), badArg)
			writes(t, d, 0, all(1)[1:], badArg)
			writes(t, d, 0, nil, badArg)
			refusesRead(t, d, 2, badArg)
			isDead(t, d, false)
		}
		for range n {
			writes(t, d, 0, all(1), 0)
		}
		writes(t, d, 2, all(1), badArg)
		isDead(t, d, false)
		writes(t, d, 0, all(1), noPower)
		writes(t, d, 2, all(1), noPower)
		isDead(t, d, true)
	}
}

// Of a dead device that is told ahead of what is handed in; but it boots, and tells how many sectors it has.
func TestP222Dead(t *testing.T) {
	for _, how := range []func(*Device){
		func(d *Device) { d.Crash() },
		func(d *Device) { d.Arm(0); d.Flush() },
		func(d *Device) { d.Arm(0); d.Write(1, all(7)) },
	} {
		d := news(t, 3)
		how(d)
		for range 2 {
			for _, x := range edges() {
				refusesRead(t, d, x, noPower)
				writes(t, d, x, all(1), noPower)
				writes(t, d, x, nil, noPower)
				answers(t, "Arm", d.Arm(x), noPower)
			}
			flushes(t, d, noPower)
			answers(t, "Crash", d.Crash(), noPower)
			isDead(t, d, true)
		}
		if d.Sectors() != 3 {
			t.Error(d.Sectors())
		}
		boots(t, d, 1, 1, 1)
		isDead(t, d, false)
		for i := range 3 {
			reads(t, d, i, all(0))
		}
		writes(t, d, 2, all(4), 0)
		flushes(t, d, 0)
	}
}

// What is read is what was written last, flushed or not.
func TestP222ReadLast(t *testing.T) {
	d := news(t, mostSectors)
	for round := range 5 {
		for i := range mostSectors {
			writes(t, d, i, marked(i+round), 0)
			reads(t, d, i, marked(i+round))
		}
		for i := range mostSectors {
			reads(t, d, i, marked(i+round))
		}
		if round%2 == 0 {
			flushes(t, d, 0)
		}
	}
}

// A flush keeps all that was written, the last of each; one more changes nothing.
func TestP222Flush(t *testing.T) {
	d := news(t, mostSectors)
	for i := range mostSectors {
		writes(t, d, i, all(99), 0)
		writes(t, d, mostSectors-1-i, marked(mostSectors-1-i), 0)
	}
	for i := range mostSectors {
		writes(t, d, i, marked(i), 0)
	}
	for range 2 {
		flushes(t, d, 0)
		crashes(t, d)
		boots(t, d, 2, 1, 0)
		for i := range mostSectors {
			reads(t, d, i, marked(i))
		}
	}
}

// The operation at which the power goes is not done, be it a write or a flush.
func TestP222PowerGoes(t *testing.T) {
	d := news(t, 2)
	writes(t, d, 0, all(1), 0)
	arms(t, d, 0)
	flushes(t, d, noPower)
	boots(t, d, 0)
	reads(t, d, 0, all(0))

	writes(t, d, 0, all(1), 0)
	arms(t, d, 0)
	writes(t, d, 0, all(2), noPower)
	boots(t, d, 1)
	reads(t, d, 0, all(1))

	arms(t, d, 0)
	writes(t, d, 1, all(2), noPower)
	boots(t, d, 1, 1)
	reads(t, d, 1, all(0))
}

// Reads, and asking how it is, take nothing off.
func TestP223ArmCounts(t *testing.T) {
	for _, n := range []int{0, 1, 2, 3, 10, 300} {
		d := news(t, 2)
		arms(t, d, n)
		for i := range n {
			reads(t, d, 1, all(0))
			isDead(t, d, false)
			d.Sectors()
			if i%3 == 2 {
				flushes(t, d, 0)
			} else {
				writes(t, d, 0, all(byte(i)), 0)
			}
		}
		reads(t, d, 1, all(0))
		isDead(t, d, false)
		flushes(t, d, noPower)
		isDead(t, d, true)
	}
}

// Arming again is from then on; below 0 it is not armed; a far number is one, too.
func TestP223ArmAgain(t *testing.T) {
	for _, n := range edges() {
		d := news(t, 1)
		arms(t, d, 0)
		arms(t, d, n)
		left := min(n, 500)
		if n < 0 {
			left = 500
		}
		for range left {
			writes(t, d, 0, all(1), 0)
		}
		want := api.Errno(0)
		if n == left {
			want = noPower
		}
		flushes(t, d, want)
		isDead(t, d, want != 0)
	}
	d := news(t, 1)
	for range 10 {
		arms(t, d, 2)
		writes(t, d, 0, all(1), 0)
		flushes(t, d, 0)
	}
	arms(t, d, -1)
	for range 100 {
		flushes(t, d, 0)
	}
}

// Behind a boot it is not armed, however the power went, and also if it did not.
func TestP223BootDisarms(t *testing.T) {
	for _, n := range []int{0, 1, 2, 3} {
		for _, crash := range []bool{false, true} {
			d := news(t, 1)
			arms(t, d, n)
			if crash {
				crashes(t, d)
			}
			boots(t, d)
			isDead(t, d, false)
			for range 10 {
				writes(t, d, 0, all(1), 0)
				flushes(t, d, 0)
			}
		}
	}
}

// Each choice of a sector alone.
func TestP223Choices(t *testing.T) {
	choices := edges()
	for c := -600; c <= 600; c++ {
		choices = append(choices, c)
	}
	d := news(t, 3)
	torn := map[int]bool{}
	for _, c := range choices {
		writes(t, d, 1, marked(0), 0)
		flushes(t, d, 0)
		writes(t, d, 1, marked(1), 0)
		if c%2 == 0 {
			crashes(t, d)
		}
		boots(t, d, c)
		want := mixed(marked(0), marked(1), c)
		reads(t, d, 1, want)
		reads(t, d, 0, all(0))
		reads(t, d, 2, all(0))
		if now := newBytes(want, marked(1)); now > 0 && now < size {
			torn[now] = true
		}
		boots(t, d, 1, 1, 1)
		reads(t, d, 1, want)
	}
	if len(torn) != size-1 {
		t.Errorf("%d ways to be torn", len(torn))
	}
}

// newBytes is how many bytes ahead are as they were written.
func newBytes(b, written []byte) int {
	n := 0
	for n < size && b[n] == written[n] {
		n++
	}
	return n
}

// Some choices, said one by one.
func TestP223ChoicesByNumber(t *testing.T) {
	for _, x := range []struct{ choice, bytes int }{
		{0, 0}, {1, size}, {2, 1}, {3, 0}, {4, size}, {5, 2}, {11, 4}, {185, 62}, {186, 0}, {187, size}, {188, 63},
		{189, 0}, {190, size}, {191, 1}, {-1, 63}, {-2, size}, {-3, 0}, {-187, 1}, {-188, size}, {-189, 0}, {-190, 63},
	} {
		d := news(t, 1)
		writes(t, d, 0, all(5), 0)
		boots(t, d, x.choice)
		reads(t, d, 0, slices.Concat(all(5)[:x.bytes], all(0)[x.bytes:]))
	}
}

// Only sectors that were written take choices, by rising numbers, in whatever order they were written; 0 when they have run out.
func TestP223WhoseChoice(t *testing.T) {
	for seed := range 60 {
		r := &dice{uint64(seed)}
		d, n := news(t, mostSectors), 0
		for i := range mostSectors {
			writes(t, d, i, marked(i), 0)
		}
		flushes(t, d, 0)
		written := make([]bool, mostSectors)
		for range r.below(600) {
			i := r.below(mostSectors)
			writes(t, d, i, marked(i+1), 0)
			if !written[i] {
				written[i] = true
				n++
			}
		}
		choices := make([]int, max(0, n+r.below(21)-10))
		for i := range choices {
			choices[i] = r.below(189)
		}
		boots(t, d, choices...)
		next := append(choices, make([]int, mostSectors)...)
		for i := range mostSectors {
			want := marked(i)
			if written[i] {
				want, next = mixed(want, marked(i+1), next[0]), next[1:]
			}
			reads(t, d, i, want)
		}
	}
}

// A sector that was written as it was takes a choice as well; one that was flushed does not, and one that a boot has settled neither.
func TestP223WhoTakesChoices(t *testing.T) {
	d := news(t, 3)
	writes(t, d, 0, all(0), 0)
	writes(t, d, 1, all(1), 0)
	boots(t, d, 1)
	reads(t, d, 1, all(0))

	writes(t, d, 0, all(1), 0)
	flushes(t, d, 0)
	writes(t, d, 1, all(1), 0)
	writes(t, d, 2, all(1), 0)
	boots(t, d, 1, 0)
	reads(t, d, 1, all(1))
	reads(t, d, 2, all(0))

	writes(t, d, 2, all(7), 0)
	boots(t, d, 1)
	reads(t, d, 1, all(1))
	reads(t, d, 2, all(7))
}

// What a boot has made of a sector is what it keeps, and what was written to it last.
func TestP223BootIsKept(t *testing.T) {
	for _, c := range []int{0, 1, 2, 5, 95, 188} {
		d := news(t, 1)
		writes(t, d, 0, marked(1), 0)
		boots(t, d, c)
		want := mixed(all(0), marked(1), c)
		for range 3 {
			reads(t, d, 0, want)
			boots(t, d, c+1)
		}
		writes(t, d, 0, marked(2), 0)
		boots(t, d, 92)
		reads(t, d, 0, mixed(want, marked(2), 92))
	}
}

// A boot of a device that is alive is a loss of power, and its return.
func TestP223BootAlive(t *testing.T) {
	for c := range 189 {
		alive, dead := news(t, 2), news(t, 2)
		for _, d := range []*Device{alive, dead} {
			writes(t, d, 0, marked(1), 0)
			flushes(t, d, 0)
			writes(t, d, 0, marked(2), 0)
			writes(t, d, 1, marked(3), 0)
		}
		crashes(t, dead)
		for _, d := range []*Device{alive, dead} {
			boots(t, d, c, 188-c)
			isDead(t, d, false)
		}
		if !same(held(t, alive), held(t, dead)) {
			t.Fatal(c)
		}
	}
}

func TestP223ManyChoices(t *testing.T) {
	d := news(t, 1)
	boots(t, d, make([]int, 1<<16)...)
	writes(t, d, 0, all(3), 0)
	boots(t, d, append([]int{1}, make([]int, 1<<16)...)...)
	reads(t, d, 0, all(3))
}

// What was handed in may be changed behind the call; its spare room is not touched.
func TestP224HandedIn(t *testing.T) {
	d := news(t, 2)
	room := slices.Concat(all(1), all(8))
	writes(t, d, 0, room[:size], 0)
	writes(t, d, 1, room[:size], 0)
	if !bytes.Equal(room, slices.Concat(all(1), all(8))) {
		t.Error("Write wrote")
	}
	clear(room)
	reads(t, d, 0, all(1))
	flushes(t, d, 0)
	reads(t, d, 1, all(1))

	writes(t, d, 0, all(2), 0)
	writes(t, d, 1, all(2), 0)
	choices := []int{5, -2, 77, 78}
	boots(t, d, choices[:2]...)
	if !slices.Equal(choices, []int{5, -2, 77, 78}) {
		t.Error("Boot wrote", choices)
	}
	clear(choices)
	reads(t, d, 0, mixed(all(1), all(2), 5))
	reads(t, d, 1, all(2))
}

// What is read may be changed, and appended to, ahead of a flush and behind it: nobody else sees it.
func TestP224Answered(t *testing.T) {
	d := news(t, 3)
	writes(t, d, 0, all(1), 0)
	flushes(t, d, 0)
	writes(t, d, 1, all(1), 0)
	for _, i := range []int{0, 1, 2} {
		want, _ := d.Read(i)
		want = slices.Clone(want)
		first, _ := d.Read(i)
		second, _ := d.Read(i)
		clear(first)
		first = append(first, 9, 9, 9)
		first[0] = 77
		if !bytes.Equal(second, want) {
			t.Error("two answers share")
		}
		reads(t, d, i, want)
	}
	reads(t, d, 0, all(1))
	reads(t, d, 1, all(1))
	reads(t, d, 2, all(0))
}

// An answer stays as it was, whatever is done with the device.
func TestP224AnsweredStays(t *testing.T) {
	d := news(t, 1)
	writes(t, d, 0, all(1), 0)
	b, _ := d.Read(0)
	flushes(t, d, 0)
	c, _ := d.Read(0)
	writes(t, d, 0, all(2), 0)
	boots(t, d, 5)
	flushes(t, d, 0)
	if !bytes.Equal(b, all(1)) || !bytes.Equal(c, all(1)) {
		t.Error(b, c)
	}
}
