package notation

import (
	"slices"
	"strings"
	"testing"

	"handbell/api"
	"handbell/formula"
)

// channels and a trace over all of them, with values near the numbers of formulas.
func (d *dice) story(l []api.Node) ([]api.Channel, [][]api.Reading) {
	values := []int{0, 1, -1, 36600}
	for _, x := range l {
		if x.Op == opAbove || x.Op == opBelow {
			values = append(values, x.N-1, x.N, x.N+1)
		}
	}
	channels := make([]api.Channel, 8)
	for i := range channels {
		channels[i] = api.Channel{Low: pick(d, values...), High: pick(d, values...)}
	}
	trace := make([][]api.Reading, 1+d.below(10))
	for tick := range trace {
		for range channels {
			trace[tick] = append(trace[tick], pick(d, api.Reading{State: api.ReadFresh, Value: pick(d, values...)}, api.Reading{State: api.ReadHeld, Value: pick(d, values...)}, api.Reading{State: api.ReadStale}))
		}
	}
	return channels, trace
}

func told(t *testing.T, l []api.Node, channels []api.Channel, trace [][]api.Reading) []bool {
	t.Helper()
	var at []bool
	for tick := range trace {
		is, e := formula.Holds(l, channels, trace, tick)
		if e != api.OK {
			t.Fatalf("Holds(%v, .., %d): %d", l, tick, e)
		}
		at = append(at, is)
	}
	return at
}

// P16.3

func TestP163HoldsAtTheSameTicks(t *testing.T) {
	d := &dice{163}
	read := 0
	for range 6000 {
		l := d.formula(1 + d.below(pick(d, 8, 32)))
		s, e := Text(l)
		if e == api.ErrLimit {
			continue
		}
		back, at, e := Parse(s)
		if e == api.ErrMany && at == len(s) {
			continue
		}
		if e != api.OK || at != 0 {
			t.Fatalf("%v, %q: %d, %d", l, s, at, e)
		}
		read++
		for range 3 {
			channels, trace := d.story(l)
			if got, want := told(t, back, channels, trace), told(t, l, channels, trace); !slices.Equal(got, want) {
				t.Fatalf("%v, %q, read as %v: %v, want %v", l, s, back, got, want)
			}
		}
	}
	if read < 1000 {
		t.Errorf("%d were read again", read)
	}
}

func TestP163Trees(t *testing.T) {
	d := &dice{1630}
	for range 20000 {
		l := d.tree(1+d.below(32), nil)
		isParsed(t, mustText(t, l), l, 0, api.OK)
	}
}

// As deep, and as long, as a formula without shared parts may be.
func TestP163Greatest(t *testing.T) {
	for _, op := range []int{opAnd, opOr, opSince} {
		var left, right []api.Node
		left = append(left, api.Node{Op: opAbove, A: 7, N: -most})
		for range 16 {
			right = append(right, api.Node{Op: opBelow, A: 7, N: -most})
		}
		for i := range 15 {
			left = append(left, api.Node{Op: opAbove, A: 7, N: -most})
			left = append(left, api.Node{Op: op, A: 2 * i, B: 2*i + 1})
			right = append(right, api.Node{Op: op, A: 14 - i, B: 15 + i})
		}
		isParsed(t, mustText(t, left), left, 0, api.OK)
		isParsed(t, mustText(t, right), right, 0, api.OK)
	}
	deep := []api.Node{{}}
	for i := range 31 {
		deep = append(deep, api.Node{Op: opHist, A: i, N: 64})
	}
	isParsed(t, mustText(t, deep), deep, 0, api.OK)
}

func TestP163TextOfWhatParseTells(t *testing.T) {
	d := &dice{1631}
	for range 10000 {
		l := d.tree(1+d.below(32), nil)
		// More brackets than there need be, and numbers with noughts at their end.
		words := []string{"(", "("}
		for _, w := range onlyWords(textOf(l, len(l)-1)) {
			switch {
			case w == "true" && d.below(2) == 0:
				words = append(words, "(", "true", ")")
			case strings.Contains(w, ".") && len(w)-strings.Index(w, ".") < 4:
				words = append(words, w+"0")
			default:
				words = append(words, w)
			}
		}
		first := mustParse(t, d.spread(append(words, ")", ")")))
		isParsed(t, mustText(t, first), first, 0, api.OK)
	}
}

// P16.4

func TestP164BlanksAndBrackets(t *testing.T) {
	d := &dice{164}
	for range 5000 {
		l := d.tree(1+d.below(12), nil)
		words := onlyWords(mustText(t, l))
		isParsed(t, d.spread(words), l, 0, api.OK)
		n := d.below(20)
		words = slices.Concat(slices.Repeat([]string{"("}, n), words, slices.Repeat([]string{")"}, n))
		isParsed(t, d.spread(words), l, 0, api.OK)
	}
}

// Blanks within words part them.
func TestP164WithinWords(t *testing.T) {
	for s, at := range map[string]int{"t rue": 0, "c 0 high": 0, "c0 hi gh": 3, "once 6 4 true": 7, "c0 > 36 .6": 8, "c0 > - 1": 5, "tru e": 0, "true o r true": 5} {
		isParsed(t, s, nil, at, api.ErrSyntax)
	}
}

// P16.5

func TestP165WhatStandsBehind(t *testing.T) {
	d := &dice{165}
	wrong := 0
	for range 10000 {
		l := d.tree(1+d.below(20), nil)
		words := onlyWords(textOf(l, len(l)-1))
		words[d.below(len(words))] = pick(d, "true", "or", ")", "(", "c0", "c8", "5", "since", "?", "X", "-")
		s := strings.Join(words, " ")
		at, is := wrongAt(s)
		if !is || at == len(s) {
			continue
		}
		wrong++
		end := len(s)
		if i := strings.IndexByte(s[at:], ' '); i >= 0 {
			end = at + i
		}
		tail := make([]byte, d.below(30))
		for i := range tail {
			tail[i] = byte(d.below(256))
		}
		for _, behind := range []string{"", " ", " true", " )", " or true", " ?", s[end:], " " + string(tail)} {
			isParsed(t, s[:end]+behind, nil, at, api.ErrSyntax)
		}
	}
	if wrong < 3000 {
		t.Errorf("%d were wrong", wrong)
	}
}
