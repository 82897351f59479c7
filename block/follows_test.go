package block

import (
	"bytes"
	"fmt"
	"slices"
	"testing"

	"handbell/api"
)

// player does things with a device and with the model, and holds their answers against each other.
type player struct {
	*testing.T
	d    *Device
	m    *model
	r    *dice
	seen map[string]int
}

func (p *player) step() {
	i := pick(p.r, p.r.below(len(p.m.since)), p.r.below(len(p.m.since)), p.r.below(len(p.m.since)+4)-2, pick(p.r, edges()...))
	switch p.r.below(20) {
	case 0, 1, 2, 3, 4, 5, 6, 7:
		b := p.r.sector()
		if p.r.below(8) == 0 {
			b = make([]byte, p.r.below(130))
		}
		p.told("write", p.d.Write(i, b), p.m.write(i, b))
	case 8, 9, 10:
		p.told("flush", p.d.Flush(), p.m.flush())
	case 11, 12:
		n := pick(p.r, p.r.below(6), p.r.below(6), p.r.below(6), pick(p.r, edges()...))
		p.told("arm", p.d.Arm(n), p.m.arm(n))
	case 13:
		p.told("crash", p.d.Crash(), p.m.crash())
	case 14, 15, 16:
		l := p.r.choices()
		p.told("boot", p.d.Boot(l), p.m.boot(l))
	default:
		b, e := p.d.Read(i)
		want, wantE := p.m.read(i)
		if !bytes.Equal(b, want) {
			p.Fatalf("Read(%d) = %x, not %x", i, b, want)
		}
		p.told("read", e, wantE)
	}
}

func (p *player) told(what string, e, want api.Errno) {
	p.Helper()
	answers(p.T, what, e, want)
	p.seen[fmt.Sprint(what, int(e))]++
}

func (p *player) look() {
	isDead(p.T, p.d, p.m.dead)
	if p.d.Sectors() != len(p.m.since) {
		p.Fatal(p.d.Sectors())
	}
	for i := range p.m.since {
		if b, _ := p.m.read(i); p.m.dead {
			refusesRead(p.T, p.d, i, noPower)
		} else {
			reads(p.T, p.d, i, b)
		}
	}
}

// Any calls in any order, against the chapter's words.
func TestP225Stories(t *testing.T) {
	p := &player{T: t, seen: map[string]int{}}
	for seed := range 600 {
		p.r = &dice{uint64(seed)}
		n := pick(p.r, 1, 2, 3, 5, 10, 40)
		p.d, p.m = news(t, n), modelOf(n)
		for range 60 {
			p.step()
			p.look()
		}
	}
	for _, what := range []string{"write0", "write2", "write220", "flush0", "flush220", "arm0", "arm220", "crash0", "crash220", "boot0", "read0", "read2", "read220"} {
		if p.seen[what] < 300 {
			t.Errorf("%s: %d times", what, p.seen[what])
		}
	}
}

// What was flushed, and not written to since, is there behind every boot, whatever was done in between and whatever the choices say.
func TestP225Flushed(t *testing.T) {
	for seed := range 300 {
		r := &dice{uint64(seed)}
		d := news(t, 12)
		for i := range 12 {
			writes(t, d, i, r.sector(), 0)
		}
		flushes(t, d, 0)
		want := held(t, d)
		for range 5 {
			arms(t, d, r.below(20)-1)
			for range r.below(30) {
				d.Write(6+r.below(6), r.sector())
			}
			if r.below(3) == 0 {
				d.Flush()
			}
			if r.below(2) == 0 {
				d.Crash()
			}
			boots(t, d, r.choices()...)
			if got := held(t, d); !same(got[:6], want[:6]) {
				t.Fatal("what was flushed is not there")
			}
		}
	}
}

// Behind a boot each sector has what it kept, or what was written last, or some first bytes of that; each of these, sector by sector, comes about.
func TestP225KeptLostTorn(t *testing.T) {
	lost, kept, torn := 0, 0, 0
	for seed := range 300 {
		r := &dice{uint64(seed)}
		d := news(t, 8)
		for i := range 8 {
			writes(t, d, i, marked(0), 0)
		}
		flushes(t, d, 0)
		old := held(t, d)
		written := make([]bool, 8)
		for range r.below(10) {
			i := r.below(8)
			writes(t, d, i, marked(1+r.below(3)), 0)
			written[i] = true
		}
		last := held(t, d)
		boots(t, d, r.choices()...)
		for i, b := range held(t, d) {
			if !written[i] && !bytes.Equal(b, old[i]) {
				t.Fatal("a sector was touched that was not written to")
			}
			n := newBytes(b, last[i])
			switch {
			case bytes.Equal(b, old[i]):
				lost++
			case n == size:
				kept++
			case n > 0 && bytes.Equal(b[n:], old[i][n:]):
				torn++
			default:
				t.Fatalf("%x, of %x and %x", b, old[i], last[i])
			}
		}
	}
	if lost < 100 || kept < 100 || torn < 100 {
		t.Error(lost, kept, torn)
	}
}

// What a sector has behind a boot does not hang on what others had written, but on its own choice.
func TestP225SectorBySector(t *testing.T) {
	for seed := range 200 {
		r := &dice{uint64(seed)}
		var choices []int
		olds, nows := [][]byte{}, [][]byte{}
		d := news(t, 5)
		for i := range 5 {
			olds, nows, choices = append(olds, r.sector()), append(nows, r.sector()), append(choices, r.below(189))
			writes(t, d, i, olds[i], 0)
		}
		flushes(t, d, 0)
		for i := range 5 {
			writes(t, d, 4-i, nows[4-i], 0)
		}
		boots(t, d, choices...)
		for i := range 5 {
			alone := news(t, 1)
			writes(t, alone, 0, olds[i], 0)
			flushes(t, alone, 0)
			writes(t, alone, 0, nows[i], 0)
			boots(t, alone, choices[i])
			b, _ := alone.Read(0)
			reads(t, d, i, b)
		}
	}
}

// Armed with n, just n operations are done, and what they did is there.
func TestP225JustSoMany(t *testing.T) {
	for n := range 40 {
		r := &dice{uint64(n)}
		d, plain := news(t, 4), news(t, 4)
		arms(t, d, n)
		done := 0
		for !d.Dead() {
			i, b := r.below(4), r.sector()
			do := func(x *Device) api.Errno { return x.Write(i, b) }
			if r.below(4) == 0 {
				do = (*Device).Flush
			}
			if do(d) == 0 {
				done++
				do(plain)
			}
		}
		if done != n {
			t.Fatalf("%d operations, not %d", done, n)
		}
		choices := r.choices()
		boots(t, d, choices...)
		boots(t, plain, choices...)
		if !same(held(t, d), held(t, plain)) {
			t.Fatal("what was done is not there")
		}
	}
}

// Devices have nothing to do with one another.
func TestR2Apart(t *testing.T) {
	a, b := news(t, 2), news(t, 2)
	writes(t, a, 0, all(1), 0)
	arms(t, a, 0)
	reads(t, b, 0, all(0))
	writes(t, b, 1, all(2), 0)
	flushes(t, b, 0)
	flushes(t, a, noPower)
	isDead(t, b, false)
	boots(t, a, 1)
	reads(t, a, 0, all(1))
	reads(t, a, 1, all(0))
	reads(t, b, 1, all(2))
}

// The same calls have the same answers.
func TestR2Same(t *testing.T) {
	story := func(seed int) []string {
		var told []string
		r := &dice{uint64(seed)}
		d := news(t, 30)
		for range 200 {
			i := r.below(31)
			switch r.below(9) {
			case 0:
				told = append(told, fmt.Sprint(int(d.Flush())))
			case 1:
				told = append(told, fmt.Sprint(int(d.Boot(append(r.choices(), r.choices()...)))))
			case 2:
				told = append(told, fmt.Sprint(int(d.Arm(r.below(40)))))
			case 3:
				b, e := d.Read(i)
				told = append(told, fmt.Sprint(b, int(e), d.Dead()))
			default:
				told = append(told, fmt.Sprint(int(d.Write(i, r.sector()))))
			}
		}
		d.Boot(nil)
		return append(told, fmt.Sprint(held(t, d)))
	}
	for seed := range 30 {
		if !slices.Equal(story(seed), story(seed)) {
			t.Fatal(seed)
		}
	}
}
