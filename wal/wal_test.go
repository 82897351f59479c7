package wal

import (
	"bytes"
	"fmt"
	"slices"
	"strings"
	"testing"

	"handbell/api"
	"handbell/block"
)

func TestTheNumbersOfTheDocument(t *testing.T) {
	for _, x := range [][2]api.Errno{{api.ErrNil, noLog}, {api.ErrArg, badArg}, {api.ErrLimit, tooBig}, {api.ErrDead, noPower}, {api.ErrLog, badLog}} {
		if x[0] != x[1] {
			t.Error(int(x[0]), int(x[1]))
		}
	}
	if api.SectorSize != size {
		t.Error(api.SectorSize)
	}
}

func TestP231Examples(t *testing.T) {
	d := device(t, 8)
	refusesOpen(t, nil, 4, noLog)
	refusesOpen(t, d, 3, badArg)
	refusesOpen(t, d, 8, badArg)
	opens(t, d, 5)
}

func TestP232Examples(t *testing.T) {
	a := all(1)
	d := device(t, 8)
	l := opens(t, d, 5)
	commits(t, l, 0, Write{5, a})
	reads(t, l, 5, a)
	has(t, d, 5, all(0))
	commits(t, l, badArg)
	commits(t, l, badArg, Write{3, a})
	commits(t, l, badArg, Write{5, a}, Write{5, a})
	commits(t, l, tooBig, Write{5, a}, Write{6, a})

	answers(t, "Crash", d.Crash(), 0)
	refusesRead(t, l, 5, noPower)
	boots(t, d)
	reads(t, opens(t, d, 5), 5, a)
}

func TestP231Refusals(t *testing.T) {
	refusesOpen(t, nil, 3, noLog)
	for _, sectors := range edges() {
		refusesOpen(t, nil, sectors, noLog)
		refusesOpen(t, &block.Device{}, sectors, noLog)
		for _, n := range []int{1, 3, 4, 5, 6, 63, 64, 65, 66, 255, 256} {
			d := device(t, n)
			if sectors >= fewest && sectors <= most && sectors < n {
				opens(t, d, sectors)
				continue
			}
			refusesOpen(t, d, sectors, badArg)
			answers(t, "Crash", d.Crash(), 0)
			refusesOpen(t, d, sectors, badArg)
		}
	}
	d := device(t, 8)
	lays(t, d, 1, bytes.Repeat([]byte{255}, size))
	answers(t, "Crash", d.Crash(), 0)
	refusesOpen(t, d, 5, noPower)
	boots(t, d)
	refusesOpen(t, d, 5, badLog)
	refusesOpen(t, d, 3, badArg)
}

// A number that is too great is found in each sector of the log, ahead and behind, and nowhere else; a refusal does nothing.
func TestP231BadNumbers(t *testing.T) {
	for i := range 9 {
		for at := range size - 3 {
			for _, v := range []int{1 << 31, 1<<31 + 1, 1<<32 - 1, 1<<31 - 1} {
				d := device(t, 9)
				b := slices.Replace(make([]byte, size), at, at+4, bytesOf(v)...)
				lays(t, d, i, b)
				was := contents(t, d)
				if i < 6 && (at == 0 || at == 60) && v >= 1<<31 {
					refusesOpen(t, d, 6, badLog)
					if !same(contents(t, d), was) {
						t.Fatal("it wrote")
					}
				} else if at == 0 || at >= 4 && at <= 56 || at == 60 {
					opens(t, d, 6)
				}
			}
		}
	}
}

// The head's stamp is one more than the greatest number, be it of a whole sector, or of a torn one.
func TestP231Head(t *testing.T) {
	d := device(t, 8)
	l := opens(t, d, 5)
	has(t, d, 0, head(1))
	commits(t, l, 0, to(6, 1))
	has(t, d, 1, piece(2, 1, 0, 0, marked(1)))
	for i := range 5 {
		for at := range size {
			for _, v := range []int{1, 255, 256, 65535, 1<<24 - 1, 1<<31 - 2, 1<<31 - 1} {
				if at != 0 && at != 60 {
					continue
				}
				d := device(t, 8)
				lays(t, d, i, slices.Replace(make([]byte, size), at, at+4, bytesOf(v)...))
				lays(t, d, 5, bytes.Repeat([]byte{255}, size))
				l := opens(t, d, 5)
				has(t, d, 0, head(v+1))
				commits(t, l, 0, to(6, 1))
				has(t, d, 1, piece(v+2, 1, 0, 0, marked(1)))
			}
		}
	}
}

// Stamps may go beyond what the next Open takes.
func TestP231LastStamps(t *testing.T) {
	d := device(t, 8)
	lays(t, d, 3, between(1<<31-1))
	l := opens(t, d, 5)
	has(t, d, 0, head(1<<31))
	commits(t, l, 0, to(6, 1))
	checkpoints(t, l, 0)
	has(t, d, 0, head(1<<31+2))
	reads(t, l, 6, marked(1))
	refusesOpen(t, d, 5, badLog)
}

// The head of greatest stamp that Open takes has no records behind it.
func TestP231RecordBehindLastStamp(t *testing.T) {
	d := device(t, 8)
	lays(t, d, 0, head(1<<31-1))
	opens(t, d, 5)
	for i := range 5 {
		has(t, d, i, [][]byte{head(1 << 31), all(0), all(0), all(0), all(0)}[i])
	}
}

func TestP231Records(t *testing.T) {
	d := device(t, 14)
	log := slices.Concat([][]byte{head(5)}, record(6, to(10, 1)), record(7, to(12, 2), to(11, 3)))
	lays(t, d, 0, log...)
	lays(t, d, 13, marked(9))
	l := opens(t, d, 10)
	for i, want := range map[int][]byte{10: marked(1), 11: marked(3), 12: marked(2), 13: marked(9)} {
		has(t, d, i, want)
		reads(t, l, i, want)
	}
	has(t, d, 0, head(8))
	for i, b := range log[1:] {
		has(t, d, i+1, b)
	}
	commits(t, l, 0, to(10, 4))
	has(t, d, 1, piece(9, 1, 0, 0, marked(4)))
	boots(t, d, 0)
	reads(t, opens(t, d, 10), 10, marked(4))
}

// Of records that write to one sector the later one holds.
func TestP231LaterRecords(t *testing.T) {
	d := device(t, 14)
	lays(t, d, 0, slices.Concat([][]byte{head(1)}, record(2, to(10, 1)), record(3, to(10, 2)), record(4, to(10, 3)))[:10]...)
	reads(t, opens(t, d, 10), 10, marked(3))
}

// What the log holds ends where no record begins that has the next stamp.
func TestP231Chains(t *testing.T) {
	one, two, three := record(6, to(20, 1)), record(7, to(21, 2)), record(8, to(22, 3))
	for _, x := range []struct {
		name string
		log  [][]byte
		held int
	}{
		{"all", slices.Concat([][]byte{head(5)}, one, two, three), 3},
		{"no head", slices.Concat([][]byte{all(0)}, one, two, three), 0},
		{"a head that is torn", slices.Concat([][]byte{slices.Concat(head(5)[:40], head(4)[40:])}, one, two, three), 0},
		{"a record for a head", slices.Concat([][]byte{between(5, 1)}, one, two, three), 0},
		{"an end for a head", slices.Concat([][]byte{between(5, 2)}, one, two, three), 0},
		{"another kind", slices.Concat([][]byte{between(5, 4)}, one, two, three), 0},
		{"no kind", slices.Concat([][]byte{between(5)}, one, two, three), 0},
		{"a head with more", slices.Concat([][]byte{between(5, 3, 1)}, one, two, three), 0},
		{"a head with more at its end", slices.Concat([][]byte{slices.Concat(head(5)[:59], []byte{1}, head(5)[60:])}, one, two, three), 0},
		{"an older head", slices.Concat([][]byte{head(4)}, one, two, three), 0},
		{"a head as new", slices.Concat([][]byte{head(6)}, one, two, three), 0},
		{"a newer head", slices.Concat([][]byte{head(7)}, one, two, three), 0},
		{"the head has no stamp", slices.Concat([][]byte{head(0)}, record(1, to(20, 1)), record(2, to(21, 1))), 0},
		{"none behind the head", slices.Concat([][]byte{head(5), all(0)}, one, two), 0},
		{"one missing", slices.Concat([][]byte{head(5)}, one, three), 1},
		{"twice", slices.Concat([][]byte{head(5)}, one, one), 1},
		{"a stamp left out", slices.Concat([][]byte{head(5)}, one, record(9, to(21, 2))), 1},
		{"a gap", slices.Concat([][]byte{head(5)}, one, [][]byte{all(0)}, two, three), 1},
		{"a record without its end", slices.Concat([][]byte{head(5)}, one, two[:2], three), 1},
		{"an end of an older stamp", slices.Concat([][]byte{head(5)}, one, two[:2], [][]byte{end(6, 21)}, three), 1},
		{"an end of a newer stamp", slices.Concat([][]byte{head(5)}, one, two[:2], [][]byte{end(8, 21)}, three), 1},
		{"an end alone", slices.Concat([][]byte{head(5)}, one, [][]byte{end(7, 21)}, two), 1},
		{"no writes", slices.Concat([][]byte{head(5)}, one, [][]byte{end(7)}, two), 1},
		{"no writes, first kind", slices.Concat([][]byte{head(5)}, one, [][]byte{between(7, 1)}, two), 1},
		{"pieces the other way", slices.Concat([][]byte{head(5)}, one, [][]byte{two[1], two[0], two[2]}), 1},
		{"a piece of another record", slices.Concat([][]byte{head(5)}, one, [][]byte{two[0], three[1], two[2]}), 1},
		{"a head within", slices.Concat([][]byte{head(5)}, one, [][]byte{head(7)}, two), 1},
	} {
		d := device(t, 24)
		lays(t, d, 0, x.log...)
		opens(t, d, 20)
		for i := range 3 {
			want := all(0)
			if i < x.held {
				want = marked(i + 1)
			}
			if b, _ := d.Read(20 + i); !bytes.Equal(b, want) {
				t.Errorf("%s: sector %d is %x", x.name, 20+i, b)
			}
		}
	}
}

// Records end with the log, which is what Open is told.
func TestP231Fits(t *testing.T) {
	for n := 1; n <= atOnce; n++ {
		var w []Write
		for i := range n {
			w = append(w, to(50+i, i))
		}
		for _, ahead := range []int{0, 3} {
			d, log := device(t, 60), [][]byte{head(5)}
			if ahead > 0 {
				log = append(log, record(6, to(58, 9))...)
			}
			log = append(log, record(6+ahead/3, w...)...)
			for sectors := max(fewest, len(log)-2); sectors <= len(log)+2; sectors++ {
				d = device(t, 60)
				lays(t, d, 0, log...)
				opens(t, d, sectors)
				for i := range n {
					want := marked(i)
					if sectors < len(log) {
						want = all(0)
					}
					has(t, d, 50+i, want)
				}
			}
		}
	}
}

// A record of nine writes is none, and whatever number of them the first sector tells, nothing is read beyond the log.
func TestP231TooManyWrites(t *testing.T) {
	var w []Write
	for i := range 9 {
		w = append(w, to(50+i, i))
	}
	for n := range 256 {
		l := slices.Concat([][]byte{head(5)}, record(6, w...))
		for _, b := range l[1:] {
			b[5] = byte(n)
		}
		d := device(t, 60)
		lays(t, d, 0, l...)
		opens(t, d, 40)
		for i := range 9 {
			has(t, d, 50+i, all(0))
		}
	}
}

// Each byte of a record counts: data comes home as it is, a sector's number says where; of all others one that is not as it should be makes it no record.
func TestP231EachByte(t *testing.T) {
	w := []Write{to(10, 1), to(11, 2)}
	whole := slices.Concat([][]byte{head(5)}, record(6, w...))
	for s := range whole {
		for at := range size {
			for _, by := range []byte{1, 2, 4, 3, 128, 255} {
				b := slices.Clone(whole[s])
				b[at] ^= by
				if numberOf(b) > 1<<31-1 || numberOf(b[60:]) > 1<<31-1 {
					continue
				}
				want := map[int][]byte{10: all(0), 11: all(0), 12: all(0), 13: all(0)}
				switch {
				case s >= 1 && s <= 4 && at >= 16 && at < 48:
					want[10], want[11] = marked(1), marked(2)
					want[10+(s-1)/2][(s-1)%2*32+at-16] ^= by
				case s == 5 && (at == 17 || at == 19):
					to := []int{10, 11}
					to[(at-17)/2] ^= int(by)
					if isHome(to[0], 8, 14) && isHome(to[1], 8, 14) && to[0] != to[1] {
						want = map[int][]byte{8: all(0), 9: all(0), 10: all(0), 11: all(0), 12: all(0), 13: all(0)}
						want[to[0]], want[to[1]] = marked(1), marked(2)
					}
				}
				d := device(t, 14)
				lays(t, d, 0, whole...)
				lays(t, d, s, b)
				opens(t, d, 8)
				for i, x := range want {
					if got, _ := d.Read(i); !bytes.Equal(got, x) {
						t.Fatalf("sector %d, byte %d, by %d: home %d is %x, not %x", s, at, by, i, got, x)
					}
				}
			}
		}
	}
}

func isHome(i, log, behind int) bool { return i >= log && i < behind }

// A record's sectors are home sectors of this log, no two the same, or it is no record.
func TestP231WhereRecordsGo(t *testing.T) {
	for _, n := range []int{30, 256} {
		for _, x := range []struct {
			to   []int
			held bool
		}{
			{[]int{12}, true}, {[]int{n - 1}, true}, {[]int{n}, false}, {[]int{11}, false}, {[]int{1}, false}, {[]int{0}, false}, {[]int{256 + 12}, false}, {[]int{65535}, false},
			{[]int{12, 13}, true}, {[]int{13, 12}, true}, {[]int{13, 13}, false}, {[]int{12, 13, 14, 15}, true}, {[]int{12, 13, 14, 12}, false}, {[]int{12, 13, 14, 14}, false},
			{[]int{12, 12, 14, 15}, false}, {[]int{12, 13, 14, 11}, false}, {[]int{n, 13, 14, 15}, false}, {[]int{12, 13, 0, 15}, false},
		} {
			var w []Write
			for i, s := range x.to {
				w = append(w, to(s, i))
			}
			d := device(t, n)
			lays(t, d, 0, slices.Concat([][]byte{head(5)}, record(6, w...))...)
			log := contents(t, d)[1:12]
			opens(t, d, 12)
			for i, b := range contents(t, d)[1:] {
				want := all(0)
				if at := slices.Index(x.to, i+1); x.held && at >= 0 {
					want = marked(at)
				} else if i < len(log) {
					want = log[i]
				}
				if !bytes.Equal(b, want) {
					t.Fatalf("%v: sector %d is %x", x.to, i+1, b)
				}
			}
		}
	}
}

// done are the operations that a call does, one by one: each run lets the power go one operation later, and tells what was written, and what was kept.
func done(t *testing.T, story func(*testing.T, *block.Device) func() api.Errno) string {
	t.Helper()
	run := func(n, choice int) (dead bool, l [][]byte) {
		d := device(t, 40)
		call := story(t, d)
		answers(t, "Arm", d.Arm(n), 0)
		e := call()
		dead = d.Dead()
		if dead != (e == noPower) || !dead && e != 0 {
			t.Fatalf("%d, and dead is %v", e, dead)
		}
		boots(t, d, slices.Repeat([]int{choice}, 40)...)
		return dead, contents(t, d)
	}
	var told []string
	for n := 0; ; n++ {
		dead, written := run(n, 1)
		_, kept := run(n, 0)
		_, writtenThen := run(n+1, 1)
		_, keptThen := run(n+1, 0)
		if !dead {
			return strings.Join(told, " ")
		}
		what := "nothing"
		if !same(kept, keptThen) {
			what = "flush"
		}
		for i := range written {
			if !bytes.Equal(written[i], writtenThen[i]) {
				what = fmt.Sprint(i)
			}
		}
		told = append(told, what)
	}
}

func does(t *testing.T, want string, story func(*testing.T, *block.Device) func() api.Errno) {
	t.Helper()
	if got := done(t, story); got != want {
		t.Errorf("it does %s, not %s", got, want)
	}
}

// open is an Open of ten sectors, behind others that were laid there.
func open(l ...[]byte) func(*testing.T, *block.Device) func() api.Errno {
	return func(t *testing.T, d *block.Device) func() api.Errno {
		lays(t, d, 0, l...)
		return func() api.Errno {
			l, e := Open(d, 10)
			if (l == nil) == (e == 0) {
				t.Errorf("%v, %d", l, e)
			}
			return e
		}
	}
}

// Open flushes what comes home ahead of the head, and nothing if nothing comes home.
func TestP231Operations(t *testing.T) {
	does(t, "0 flush", open())
	does(t, "0 flush", open(head(5)))
	does(t, "0 flush", open(slices.Concat([][]byte{head(5)}, record(7, to(11, 1)))...))
	does(t, "11 flush 0 flush", open(slices.Concat([][]byte{head(5)}, record(6, to(11, 1)))...))
	does(t, "15 11 13 flush 0 flush", open(slices.Concat([][]byte{head(5)}, record(6, to(15, 1), to(11, 2), to(13, 3)))...))
	does(t, "15 11 15 flush 0 flush", open(slices.Concat([][]byte{head(5)}, record(6, to(15, 1), to(11, 2)), record(7, to(15, 3)))...))
}

// committing is a Commit behind others.
func committing(w []Write, ahead ...[]Write) func(*testing.T, *block.Device) func() api.Errno {
	return func(t *testing.T, d *block.Device) func() api.Errno {
		l := opens(t, d, 10)
		for _, x := range ahead {
			commits(t, l, 0, x...)
		}
		return func() api.Errno { return l.Commit(w...) }
	}
}

// A Commit's last sector is written behind all others, which were flushed; a Checkpoint goes ahead of it where there is no room.
func TestP232Operations(t *testing.T) {
	does(t, "1 2 flush 3 flush", committing([]Write{to(11, 1)}))
	does(t, "1 2 3 4 5 6 7 8 flush 9 flush", committing([]Write{to(11, 1), to(10, 2), to(16, 3), to(12, 4)}))
	does(t, "4 5 6 7 flush 8 flush", committing([]Write{to(11, 1), to(10, 2)}, []Write{to(11, 3)}))
	does(t, "7 8 flush 9 flush", committing([]Write{to(11, 1)}, []Write{to(11, 3)}, []Write{to(12, 3)}))
	does(t, "11 12 15 flush 0 flush 1 2 flush 3 flush", committing([]Write{to(11, 1)}, []Write{to(15, 3)}, []Write{to(12, 3)}, []Write{to(11, 2)}))
	does(t, "15 flush 0 flush 1 2 3 4 5 6 7 8 flush 9 flush", committing([]Write{to(11, 1), to(12, 2), to(13, 3), to(14, 4)}, []Write{to(15, 3)}))
}

// A Checkpoint goes by rising numbers, each sector once; without records it does nothing.
func TestP234Operations(t *testing.T) {
	checkpoint := func(ahead ...[]Write) func(*testing.T, *block.Device) func() api.Errno {
		return func(t *testing.T, d *block.Device) func() api.Errno {
			l := opens(t, d, 30)
			for _, x := range ahead {
				commits(t, l, 0, x...)
			}
			return l.Checkpoint
		}
	}
	does(t, "", checkpoint())
	does(t, "33 flush 0 flush", checkpoint([]Write{to(33, 1)}))
	does(t, "30 31 32 33 35 39 flush 0 flush", checkpoint([]Write{to(39, 1), to(33, 2)}, []Write{to(31, 3), to(39, 4)}, []Write{to(35, 5), to(32, 6), to(30, 7)}))
}

// A device's bytes, one by one.
func TestP232Bytes(t *testing.T) {
	d := device(t, 256)
	l := opens(t, d, 20)
	commits(t, l, 0, Write{255, marked(0)}, Write{20, all(0xab)})
	for i, want := range []string{
		"00000001 03" + strings.Repeat("00", 55) + "00000001",
		"00000002 01 02 00 00 0000000000000000 000102030405060708090a0b0c0d0e0f101112131415161718191a1b1c1d1e1f 000000000000000000000000 00000002",
		"00000002 01 02 00 01 0000000000000000 202122232425262728292a2b2c2d2e2f303132333435363738393a3b3c3d3e3f 000000000000000000000000 00000002",
		"00000002 01 02 01 00 0000000000000000" + strings.Repeat("ab", 32) + "000000000000000000000000 00000002",
		"00000002 01 02 01 01 0000000000000000" + strings.Repeat("ab", 32) + "000000000000000000000000 00000002",
		"00000002 02 02 00000000000000000000 00ff 0014" + strings.Repeat("00", 40) + "00000002",
		strings.Repeat("00", 64),
	} {
		b, _ := d.Read(i)
		if got := fmt.Sprintf("%x", b); got != strings.ReplaceAll(want, " ", "") {
			t.Errorf("sector %d: %s", i, got)
		}
	}
	for _, i := range []int{19, 20, 255} {
		has(t, d, i, all(0))
	}
}

// Any number of writes, in a log that has just so much room, and in one that has more.
func TestP232Sizes(t *testing.T) {
	for sectors := fewest; sectors <= most; sectors++ {
		for n := 1; n <= atOnce; n++ {
			d := device(t, most+9)
			l := opens(t, d, sectors)
			var w []Write
			for i := range n {
				w = append(w, to(most+8-i, i))
			}
			if 2*n+1 > sectors-1 {
				commits(t, l, tooBig, w...)
				has(t, d, 1, all(0))
				continue
			}
			commits(t, l, 0, w...)
			for i, b := range record(2, w...) {
				has(t, d, 1+i, b)
			}
			for i, x := range w {
				reads(t, l, most+8-i, x.Data)
			}
		}
	}
}

// What Commit refuses does nothing, and takes no stamp.
func TestP232Refusals(t *testing.T) {
	d := device(t, 40)
	l := opens(t, d, 14)
	commits(t, l, 0, to(20, 1))
	was := contents(t, d)
	var many []Write
	for i := range 9 {
		many = append(many, to(20+i, i))
	}
	refuse := func(want api.Errno, w ...Write) {
		t.Helper()
		commits(t, l, want, w...)
		if !same(contents(t, d), was) {
			t.Fatal("it wrote")
		}
	}
	refuse(badArg)
	refuse(badArg, []Write{}...)
	refuse(badArg, many...)
	refuse(badArg, slices.Repeat(many, 1000)...)
	refuse(badArg, slices.Repeat([]Write{to(20, 1)}, 9)...)
	refuse(tooBig, many[:8]...)
	refuse(tooBig, many[:7]...)
	for _, i := range edges() {
		if i >= 14 && i < 40 {
			continue
		}
		refuse(badArg, to(i, 1))
		refuse(badArg, to(20, 1), to(i, 2), to(21, 1))
		refuse(badArg, slices.Replace(slices.Clone(many[:8]), 7, 8, to(i, 1))...)
	}
	for _, n := range []int{0, 1, 32, 63, 65, 128} {
		bad := Write{22, make([]byte, n)}
		refuse(badArg, bad)
		refuse(badArg, to(20, 1), bad)
		refuse(badArg, bad, to(20, 1))
		refuse(badArg, slices.Replace(slices.Clone(many[:8]), 7, 8, bad)...)
	}
	refuse(badArg, Write{20, nil})
	for n := 2; n <= atOnce; n++ {
		for i := range n {
			for k := range i {
				w := slices.Clone(many[:n])
				w[i].Sector = w[k].Sector
				refuse(badArg, w...)
			}
		}
	}
	commits(t, l, 0, to(14, 2), to(39, 3))
	for i, b := range record(3, to(14, 2), to(39, 3)) {
		has(t, d, 4+i, b)
	}
}

// Records stand one behind the other, as long as there is room; only where there is none they come home, and begin anew.
func TestP232Room(t *testing.T) {
	for _, sectors := range []int{4, 5, 6, 7, 8, 10, 11, 13, 64} {
		d := device(t, 80)
		l := opens(t, d, sectors)
		at, stamp, atHome, committed := 1, 2, [7]int{}, [7]int{}
		for mark := 1; mark <= 60; mark++ {
			if at+3 > sectors {
				has(t, d, 0, head(stamp-1-(at-1)/3))
				at, stamp, atHome = 1, stamp+1, committed
			}
			commits(t, l, 0, to(70+mark%7, mark))
			committed[mark%7] = mark
			for k, b := range record(stamp, to(70+mark%7, mark)) {
				has(t, d, at+k, b)
			}
			at, stamp = at+3, stamp+1
			for k := range 7 {
				has(t, d, 70+k, markedOrNone(atHome[k]))
				reads(t, l, 70+k, markedOrNone(committed[k]))
			}
		}
	}
}

func markedOrNone(mark int) []byte {
	if mark == 0 {
		return all(0)
	}
	return marked(mark)
}

// Once the device has answered an error the log is broken, and stays so; whatever it is asked, that comes first.
func TestP232Broken(t *testing.T) {
	calls := map[string]func(*Log) api.Errno{
		"Commit":     func(l *Log) api.Errno { return l.Commit(to(12, 1)) },
		"Checkpoint": (*Log).Checkpoint,
	}
	for name, call := range calls {
		for n := range 4 {
			d := device(t, 20)
			l := opens(t, d, 10)
			commits(t, l, 0, to(11, 1))
			answers(t, "Arm", d.Arm(n), 0)
			answers(t, name, call(l), noPower)
			for _, alive := range []bool{false, true} {
				if alive {
					boots(t, d)
				}
				for _, i := range edges() {
					refusesRead(t, l, i, noPower)
				}
				refusesRead(t, l, 11, noPower)
				commits(t, l, noPower, to(12, 1))
				commits(t, l, noPower)
				commits(t, l, noPower, to(1, 1))
				commits(t, l, noPower, to(12, 1), to(13, 1), to(14, 1), to(15, 1), to(16, 1))
				checkpoints(t, l, noPower)
			}
			reads(t, opens(t, d, 10), 11, marked(1))
		}
	}
}

// A broken log leaves the device alone.
func TestP232BrokenWritesNothing(t *testing.T) {
	d := device(t, 20)
	l := opens(t, d, 10)
	commits(t, l, 0, to(11, 1))
	answers(t, "Crash", d.Crash(), 0)
	commits(t, l, noPower, to(12, 1))
	boots(t, d)
	was := contents(t, d)
	commits(t, l, noPower, to(12, 1))
	checkpoints(t, l, noPower)
	if !same(contents(t, d), was) {
		t.Fatal("it wrote")
	}
}

// The last flush of a Commit is part of it: where the power goes there, nobody knows whether it is done.
func TestP232LastFlush(t *testing.T) {
	for choice, want := range [][]byte{all(0), marked(1)} {
		d := device(t, 20)
		l := opens(t, d, 10)
		answers(t, "Arm", d.Arm(4), 0)
		commits(t, l, noPower, to(11, 1))
		boots(t, d, choice)
		reads(t, opens(t, d, 10), 11, want)
	}
}

// Arguments are looked at ahead of a device that nobody has found dead yet.
func TestP232DeadDevice(t *testing.T) {
	d := device(t, 20)
	l := opens(t, d, 10)
	answers(t, "Crash", d.Crash(), 0)
	commits(t, l, badArg, to(1, 1))
	commits(t, l, badArg)
	commits(t, l, tooBig, to(12, 1), to(13, 1), to(14, 1), to(15, 1), to(16, 1))
	checkpoints(t, l, 0)
	commits(t, l, noPower, to(12, 1))
	commits(t, l, noPower, to(1, 1))
	checkpoints(t, l, noPower)
}

func TestP233Read(t *testing.T) {
	d := device(t, 20)
	lays(t, d, 10, marked(5), marked(6))
	l := opens(t, d, 10)
	reads(t, l, 10, marked(5))
	reads(t, l, 19, all(0))
	commits(t, l, 0, to(10, 1), to(19, 2))
	reads(t, l, 10, marked(1))
	reads(t, l, 11, marked(6))
	reads(t, l, 19, marked(2))
	commits(t, l, 0, to(10, 3))
	reads(t, l, 10, marked(3))
	reads(t, l, 19, marked(2))
	has(t, d, 10, marked(5))
	for _, i := range edges() {
		if i < 10 || i >= 20 {
			refusesRead(t, l, i, badArg)
		}
	}
	refusesRead(t, l, 20, badArg)
	checkpoints(t, l, 0)
	for i, want := range map[int][]byte{10: marked(3), 11: marked(6), 19: marked(2)} {
		reads(t, l, i, want)
		has(t, d, i, want)
	}
}

// A sector to which nothing was committed since a checkpoint is as the device has it, whoever wrote there; one to which something was is not.
func TestP233AsTheDeviceHasIt(t *testing.T) {
	d := device(t, 20)
	l := opens(t, d, 10)
	commits(t, l, 0, to(11, 1))
	lays(t, d, 11, marked(7), marked(8))
	reads(t, l, 11, marked(1))
	reads(t, l, 12, marked(8))
	checkpoints(t, l, 0)
	has(t, d, 11, marked(1))
	lays(t, d, 11, marked(9))
	reads(t, l, 11, marked(9))
}

// Read finds the device dead without asking it for anything: the log is not broken by that.
func TestP233DeadDevice(t *testing.T) {
	d := device(t, 20)
	l := opens(t, d, 10)
	commits(t, l, 0, to(11, 1))
	answers(t, "Crash", d.Crash(), 0)
	for _, i := range append(edges(), 10, 11, 12) {
		refusesRead(t, l, i, noPower)
	}
	boots(t, d)
	reads(t, l, 11, marked(1))
	reads(t, l, 12, all(0))
	refusesRead(t, l, 9, badArg)
	commits(t, l, 0, to(12, 2))
	reads(t, l, 12, marked(2))
}

func TestP234Checkpoint(t *testing.T) {
	d := device(t, 20)
	l := opens(t, d, 10)
	was := contents(t, d)
	checkpoints(t, l, 0)
	if !same(contents(t, d), was) {
		t.Fatal("without records it wrote")
	}
	commits(t, l, 0, to(15, 1), to(11, 2))
	commits(t, l, 0, to(15, 3))
	checkpoints(t, l, 0)
	boots(t, d)
	has(t, d, 15, marked(3))
	has(t, d, 11, marked(2))
	has(t, d, 0, head(4))
	was = contents(t, d)
	checkpoints(t, l, 0)
	if !same(contents(t, d), was) {
		t.Fatal("once more it wrote")
	}
	commits(t, l, 0, to(12, 4))
	for i, b := range record(5, to(12, 4)) {
		has(t, d, 1+i, b)
	}
	checkpoints(t, l, 0)
	has(t, d, 0, head(6))
	has(t, d, 12, marked(4))
}

// A checkpoint writes what was committed since the last one, and nothing else.
func TestP234OnlyWhatIsNew(t *testing.T) {
	d := device(t, 20)
	l := opens(t, d, 10)
	commits(t, l, 0, to(11, 1))
	checkpoints(t, l, 0)
	lays(t, d, 11, marked(2))
	commits(t, l, 0, to(12, 3))
	checkpoints(t, l, 0)
	has(t, d, 11, marked(2))
	has(t, d, 12, marked(3))
}

// Of a log that is none all calls answer ErrNil, whatever they are handed, and a dead device or not.
func TestP232NoLog(t *testing.T) {
	for _, l := range []*Log{nil, {}, new(Log)} {
		for range 2 {
			commits(t, l, noLog)
			commits(t, l, noLog, to(10, 1))
			commits(t, l, noLog, Write{})
			checkpoints(t, l, noLog)
			for _, i := range edges() {
				refusesRead(t, l, i, noLog)
			}
		}
	}
}

// What was handed in may be changed behind the call; its spare room is not touched.
func TestP235HandedIn(t *testing.T) {
	d := device(t, 20)
	l := opens(t, d, 10)
	room := slices.Concat(marked(1), marked(2), all(77))
	w := []Write{{13, room[:size]}, {12, room[size : 2*size]}, {77, nil}}
	commits(t, l, 0, w[:2]...)
	if !bytes.Equal(room, slices.Concat(marked(1), marked(2), all(77))) || w[0].Sector != 13 || w[1].Sector != 12 || w[2].Sector != 77 || w[2].Data != nil {
		t.Error("Commit wrote")
	}
	clear(room)
	clear(w)
	reads(t, l, 13, marked(1))
	reads(t, l, 12, marked(2))
	checkpoints(t, l, 0)
	has(t, d, 13, marked(1))
	has(t, d, 12, marked(2))
}

// Two writes may be handed the same bytes.
func TestP235SharedData(t *testing.T) {
	d := device(t, 20)
	l := opens(t, d, 10)
	b := marked(1)
	commits(t, l, 0, Write{13, b}, Write{12, b})
	b[0]++
	commits(t, l, 0, Write{14, b})
	reads(t, l, 12, marked(1))
	reads(t, l, 13, marked(1))
	reads(t, l, 14, b)
}

// What was read may be changed, and appended to: nobody else sees it.
func TestP235Answered(t *testing.T) {
	d := device(t, 20)
	lays(t, d, 12, marked(2))
	l := opens(t, d, 10)
	commits(t, l, 0, to(11, 1))
	for i, want := range map[int][]byte{11: marked(1), 12: marked(2), 13: all(0)} {
		first, _ := l.Read(i)
		second, _ := l.Read(i)
		clear(first)
		first = append(first, 9, 9)
		first[0] = 9
		if !bytes.Equal(second, want) {
			t.Error("two answers share")
		}
		reads(t, l, i, want)
	}
	checkpoints(t, l, 0)
	has(t, d, 11, marked(1))
	has(t, d, 12, marked(2))
}

// An answer stays as it was, whatever is committed.
func TestP235AnsweredStays(t *testing.T) {
	l := opens(t, device(t, 20), 10)
	commits(t, l, 0, to(11, 1))
	b, _ := l.Read(11)
	commits(t, l, 0, to(11, 2))
	checkpoints(t, l, 0)
	if !bytes.Equal(b, marked(1)) {
		t.Error(b)
	}
}
