package notation

import (
	"slices"
	"strings"
	"testing"

	"handbell/api"
	"handbell/formula"
)

// P16.1

func TestP161Examples(t *testing.T) {
	isText(t, []api.Node{{}, {Op: opNot}, {Op: opOr, A: 1}}, "not true or true", api.OK)
	isText(t, nil, "", api.ErrForm)
	isText(t, []api.Node{}, "", api.ErrForm)
	isText(t, []api.Node{{Op: opAbove, N: 36600}}, "c0 > 36.6", api.OK)
	isText(t, []api.Node{{Op: opKnown, A: 1}, {Op: opNot}, {Op: opHigh}, {}, {Op: opAnd, A: 2, B: 3}, {Op: opOr, A: 1, B: 4}}, "not c1 known or c0 high and true", api.OK)
	isText(t, []api.Node{{Op: opLow}, {Op: opBelow, A: 2, N: -1000}, {Op: opSince, B: 1}, {Op: opOnce, A: 2, N: 5}}, "once 5 (c0 low since c2 < -1)", api.OK)
	isText(t, []api.Node{{}, {}, {Op: opAnd, B: 1}, {}, {Op: opAnd, A: 2, B: 3}}, "true and true and true", api.OK)
	isText(t, []api.Node{{}, {}, {}, {Op: opAnd, A: 1, B: 2}, {Op: opAnd, B: 3}}, "true and (true and true)", api.OK)
}

func TestP161Atoms(t *testing.T) {
	for c, name := range []string{"c0", "c1", "c2", "c3", "c4", "c5", "c6", "c7"} {
		isText(t, []api.Node{{Op: opHigh, A: c}}, name+" high", api.OK)
		isText(t, []api.Node{{Op: opLow, A: c}}, name+" low", api.OK)
		isText(t, []api.Node{{Op: opKnown, A: c}}, name+" known", api.OK)
		for v, number := range map[int]string{0: "0", 1: "0.001", -1: "-0.001", 1000: "1", -36600: "-36.6", most: "2147483.647", -most: "-2147483.647"} {
			isText(t, []api.Node{{Op: opAbove, A: c, N: v}}, name+" > "+number, api.OK)
			isText(t, []api.Node{{Op: opBelow, A: c, N: v}}, name+" < "+number, api.OK)
		}
	}
}

// Each operation as each part of each operation, written out.
func TestP161Brackets(t *testing.T) {
	parts := []api.Node{
		{}, {Op: opAbove, N: 1000}, {Op: opBelow, N: 1000}, {Op: opHigh}, {Op: opLow}, {Op: opKnown},
		{Op: opNot}, {Op: opAnd}, {Op: opOr}, {Op: opPrev}, {Op: opOnce, N: 64}, {Op: opHist}, {Op: opSince},
	}
	texts := []string{
		"true", "c0 > 1", "c0 < 1", "c0 high", "c0 low", "c0 known",
		"not true", "true and true", "true or true", "prev true", "once 64 true", "hist 0 true", "true since true",
	}
	closed := func(part int, in ...int) string {
		if slices.Contains(in, part) {
			return "(" + texts[part] + ")"
		}
		return texts[part]
	}
	for p, x := range parts {
		l := []api.Node{{}, x}
		unary := closed(p, opAnd, opOr, opSince)
		isText(t, append(l, api.Node{Op: opNot, A: 1}), "not "+unary, api.OK)
		isText(t, append(l, api.Node{Op: opPrev, A: 1}), "prev "+unary, api.OK)
		isText(t, append(l, api.Node{Op: opOnce, A: 1, N: 7}), "once 7 "+unary, api.OK)
		isText(t, append(l, api.Node{Op: opHist, A: 1, N: 10}), "hist 10 "+unary, api.OK)
		isText(t, append(l, api.Node{Op: opSince, A: 1}), unary+" since true", api.OK)
		isText(t, append(l, api.Node{Op: opSince, B: 1}), "true since "+unary, api.OK)
		isText(t, append(l, api.Node{Op: opAnd, A: 1}), closed(p, opOr)+" and true", api.OK)
		isText(t, append(l, api.Node{Op: opAnd, B: 1}), "true and "+closed(p, opAnd, opOr), api.OK)
		isText(t, append(l, api.Node{Op: opOr, A: 1}), texts[p]+" or true", api.OK)
		isText(t, append(l, api.Node{Op: opOr, B: 1}), "true or "+closed(p, opOr), api.OK)
	}
}

func TestP161Random(t *testing.T) {
	d := &dice{161}
	short := 0
	for range 30000 {
		l := d.formula(1 + d.below(32))
		if bytesOf(l, len(l)-1) > 1024 {
			isText(t, l, "", api.ErrLimit)
			continue
		}
		short++
		isText(t, l, textOf(l, len(l)-1), api.OK)
	}
	if short < 1000 || short > 29900 {
		t.Errorf("%d of them are short", short)
	}
}

// long has a text of 1024 bytes if its last number has five digits, and a byte more for each digit more.
func long(last int) []api.Node {
	l := []api.Node{{}}
	for i := range 6 {
		l = append(l, api.Node{Op: opOr, A: i, B: i}) // of 12, 30, 66, 138, 282, 570 bytes
	}
	return append(l,
		api.Node{Op: opAbove, N: last},
		api.Node{Op: opOr, A: 6, B: 5},
		api.Node{Op: opOr, A: 8, B: 4},
		api.Node{Op: opOr, A: 9, B: 0},
		api.Node{Op: opOr, A: 10, B: 7},
	)
}

func TestP161Limit(t *testing.T) {
	for last, want := range map[int]int{12345000: 1024, 1234000: 1023, 123456000: 1025, most: 1030} {
		l := long(last)
		if n := bytesOf(l, len(l)-1); n != want {
			t.Fatalf("%d: %d bytes", last, n)
		}
		if want > 1024 {
			isText(t, l, "", api.ErrLimit)
			// It is no less too long as a part of others.
			isText(t, append(l, api.Node{Op: opNot, A: len(l) - 1}), "", api.ErrLimit)
			isText(t, append(l, api.Node{Op: opSince, A: 0, B: len(l) - 1}), "", api.ErrLimit)
			continue
		}
		isText(t, l, textOf(l, len(l)-1), api.OK)
	}
}

// What is no part of the root may be as long as it likes.
func TestP161LongBeside(t *testing.T) {
	l := long(most)
	isText(t, append(l, api.Node{Op: opKnown, A: 3}), "c3 known", api.OK)
	isText(t, append(l, api.Node{Op: opPrev}), "prev true", api.OK)
}

// Parts that are parts twice, of nodes that are parts twice, and so on: told in time.
func TestP161Towers(t *testing.T) {
	for _, op := range []int{opAnd, opOr, opSince} {
		l := []api.Node{{}}
		for i := range 31 {
			l = append(l, api.Node{Op: op, A: i, B: i})
		}
		within(t, "a tower", func() {
			isText(t, l, "", api.ErrLimit)
			l[31] = api.Node{Op: opNot, A: 0}
			isText(t, l, "not true", api.OK)
		})
	}
}

func TestP161Refused(t *testing.T) {
	isText(t, make([]api.Node, 33), "", api.ErrMany)
	isText(t, make([]api.Node, 32), "true", api.OK)
	for op := -1; op <= 13; op++ {
		for _, v := range edges() {
			for _, x := range []api.Node{{Op: op}, {Op: v}, {Op: op, A: v}, {Op: op, B: v}, {Op: op, N: v}} {
				l := []api.Node{{}, x}
				e := formula.Check(l, 8)
				if e != api.OK {
					isText(t, l, "", e)
					// It may not be, also where it is no part of the root.
					isText(t, append(l, api.Node{}), "", e)
					continue
				}
				isText(t, l, textOf(l, 1), api.OK)
			}
		}
	}
	// A formula that may not be is told so, however long its text is.
	isText(t, append(long(most), api.Node{Op: opNot, A: 40}), "", api.ErrForm)
}

func TestTextKeepsNothing(t *testing.T) {
	room := long(12345000)
	l := room[:3]
	kept := slices.Clone(room)
	first := mustText(t, l)
	if !slices.Equal(room, kept) {
		t.Errorf("what was handed in is %v", room)
	}
	l[0] = api.Node{Op: opKnown}
	if again := mustText(t, l); first != "true or true or (true or true)" || strings.Contains(again, "true") {
		t.Errorf("%q, then %q", first, again)
	}
}
