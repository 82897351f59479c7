package notation

import (
	"slices"
	"strconv"
	"strings"
	"testing"

	"handbell/api"
)

// P16.2

func TestP162Examples(t *testing.T) {
	for s, l := range map[string][]api.Node{
		"c0 > 36.6":                        {{Op: opAbove, N: 36600}},
		"not c1 known or c0 high and true": {{Op: opKnown, A: 1}, {Op: opNot}, {Op: opHigh}, {}, {Op: opAnd, A: 2, B: 3}, {Op: opOr, A: 1, B: 4}},
		"once 5 (c0 low since c2 < -1)":    {{Op: opLow}, {Op: opBelow, A: 2, N: -1000}, {Op: opSince, B: 1}, {Op: opOnce, A: 2, N: 5}},
		"true and true and true":           {{}, {}, {Op: opAnd, B: 1}, {}, {Op: opAnd, A: 2, B: 3}},
		"true and (true and true)":         {{}, {}, {}, {Op: opAnd, A: 1, B: 2}, {Op: opAnd, B: 3}},
	} {
		isParsed(t, s, l, 0, api.OK)
	}
	for s, at := range map[string]int{
		"true or": 7, "": 0, "c8 high": 0, "c0 >": 4, "true since true since true": 16,
		"once 65 true": 5, "once 05 true": 5, "true)": 4, "c0 > 01": 5, "True": 0,
	} {
		isParsed(t, s, nil, at, api.ErrSyntax)
	}
}

// How operations bind, written out.
func TestP162Binds(t *testing.T) {
	and, or, since, not := opAnd, opOr, opSince, opNot
	for s, l := range map[string][]api.Node{
		"true or true or true":               {{}, {}, {Op: or, B: 1}, {}, {Op: or, A: 2, B: 3}},
		"true or (true or true)":             {{}, {}, {}, {Op: or, A: 1, B: 2}, {Op: or, B: 3}},
		"true and true or true":              {{}, {}, {Op: and, B: 1}, {}, {Op: or, A: 2, B: 3}},
		"true or true and true":              {{}, {}, {}, {Op: and, A: 1, B: 2}, {Op: or, B: 3}},
		"(true or true) and true":            {{}, {}, {Op: or, B: 1}, {}, {Op: and, A: 2, B: 3}},
		"true and true since true":           {{}, {}, {}, {Op: since, A: 1, B: 2}, {Op: and, B: 3}},
		"true since true and true":           {{}, {}, {Op: since, B: 1}, {}, {Op: and, A: 2, B: 3}},
		"not true since true":                {{}, {Op: not}, {}, {Op: since, A: 1, B: 2}},
		"true since not true":                {{}, {}, {Op: not, A: 1}, {Op: since, B: 2}},
		"not (true since true)":              {{}, {}, {Op: since, B: 1}, {Op: not, A: 2}},
		"(true since true) since true":       {{}, {}, {Op: since, B: 1}, {}, {Op: since, A: 2, B: 3}},
		"true since (true since true)":       {{}, {}, {}, {Op: since, A: 1, B: 2}, {Op: since, B: 3}},
		"not prev once 0 hist 64 true":       {{}, {Op: opHist, N: 64}, {Op: opOnce, A: 1}, {Op: opPrev, A: 2}, {Op: not, A: 3}},
		"once 1 c0 low and hist 2 c7 > -0.1": {{Op: opLow}, {Op: opOnce, N: 1}, {Op: opAbove, A: 7, N: -100}, {Op: opHist, A: 2, N: 2}, {Op: and, A: 1, B: 3}},
	} {
		isParsed(t, s, l, 0, api.OK)
	}
}

// Where texts go wrong, by hand: at a word, or at the end, blanks at the end among it.
func TestP162Places(t *testing.T) {
	for s, at := range map[string]int{
		" ": 1, "   ": 3, "true or  ": 9, "  true  or": 10, "not": 3, "not ": 4, "once": 4, "once 5": 6, "once 5 ": 7, "c0": 2, "c0  ": 4, "c0 <  ": 6, "(true": 5, "(": 1, "true since": 10, "(true and ": 10,
		"or": 0, "  or true": 2, "true true": 5, "true not true": 5, "true c0": 5, "true (true)": 5, "()": 1, "(true) )": 7, "(true))": 6, ")": 0, "true or or": 8, "true or )": 8, "(or": 1, "((true)": 7,
		"c0 true": 3, "c0 = 1": 3, "c0 (": 3, "c0 and": 3, "c0 > c1": 5, "c0 > (1)": 5, "c0 > > 1": 5, "c0 high low": 8, "c0 high > 1": 8, "> 1": 0, "1 < c0": 0, "high": 0,
		"once true": 5, "once 5 5 true": 7, "once c0 high": 5, "not 5 true": 4, "prev 1 true": 5, "5": 0,
		"since true": 0, "(true since true since true)": 17, "true since true and true since true since true": 36,
		"true\tor true": 4, "\ttrue": 0, "true\n": 4, "true\x00": 4, "true\u00a0": 4, "\u00a0true": 0, "true or \xff": 8, "trUe": 0, "TRUE": 0, "true AND true": 5, "C0 high": 0, "c0 High": 3,
		"trueand true": 0, "true.": 0, "-true": 0, "true-": 0, "c0high": 0, "c0-1": 0, "c0 >= 1": 4, "c0 <> 1": 4, "c0>1e3": 3, "c0>+1": 3, "once5 true": 0, "once -5 true": 5, "once 5.0 true": 5, "once +5 true": 5,
		"c0 > 2147483.648": 5, "c0 < -2147483.648": 5, "c0 > 9999999": 5, "c0 > -0": 5, "c0 > 1.": 5, "c0 > .5": 5, "c0 > 1.2345": 5, "c0 > -": 5, "c0 > - 1": 5, "c0 > 1 .5": 7,
		"true, true": 4, "!true": 0, "true && true": 5, "[true]": 0, "true or true;": 12,
	} {
		isParsed(t, s, nil, at, api.ErrSyntax)
	}
}

// Blanks say nothing, where words stay parted without them.
func TestP162NoBlanks(t *testing.T) {
	for s, same := range map[string]string{
		"c7<-0.5":                 "c7 < -0.5",
		"(true)and(true)":         "true and true",
		"not(c0>1)or(c1<2)":       "not c0 > 1 or c1 < 2",
		"once 5(true)since(true)": "once 5 true since true",
		"c0>1.50 or c0<2.000":     "c0 > 1.5 or c0 < 2",
	} {
		isParsed(t, s, mustParse(t, same), 0, api.OK)
	}
}

func TestP162Ticks(t *testing.T) {
	for _, op := range []int{opOnce, opHist} {
		ahead := map[int]string{opOnce: "once ", opHist: "hist "}[op]
		for n := range 1200 {
			text := ahead + strconv.Itoa(n) + " true"
			if n <= 64 {
				isParsed(t, text, []api.Node{{}, {Op: op, N: n}}, 0, api.OK)
			} else {
				isParsed(t, text, nil, 5, api.ErrSyntax)
			}
			isParsed(t, ahead+"0"+strconv.Itoa(n)+" true", nil, 5, api.ErrSyntax)
			isParsed(t, ahead+"-"+strconv.Itoa(n)+" true", nil, 5, api.ErrSyntax)
			isParsed(t, ahead+strconv.Itoa(n)+".0 true", nil, 5, api.ErrSyntax)
		}
		for _, w := range []string{"99999999999999999999", "18446744073709551621", "4294967301", "a", "0x5", "5-", "5.", "c1", "true", "00"} {
			isParsed(t, ahead+w+" true", nil, 5, api.ErrSyntax)
		}
	}
}

func TestP162Channels(t *testing.T) {
	for a := range 256 {
		for b := range 256 {
			s := string([]byte{byte(a), byte(b)})
			if a == 'c' && '0' <= b && b <= '7' {
				isParsed(t, s+" high", []api.Node{{Op: opHigh, A: b - '0'}}, 0, api.OK)
				continue
			}
			isAsSaid(t, s+" high")
		}
	}
	for _, w := range []string{"c", "c00", "c10", "c-1", "c07", "cc0", "c0.", "c1.0", "channel0"} {
		isParsed(t, w+" known", nil, 0, api.ErrSyntax)
	}
}

// Each byte, on its own, in a word, between words, ahead of a word and behind it.
func TestP162Bytes(t *testing.T) {
	for b := range 256 {
		c := string([]byte{byte(b)})
		for _, s := range []string{c, "tr" + c + "ue", "true" + c + "or true", "true " + c + " true", c + "true", "true" + c, "c0" + c + "1", "c0 " + c + " 1", "once 1" + c + " true", "c0 > 1" + c} {
			isAsSaid(t, s)
		}
	}
}

// All rows of up to six words of these.
func TestP162EveryShortRow(t *testing.T) {
	all := []string{"true", "not", "once", "5", "and", "or", "since", "c0", ">", "high", "(", ")"}
	var rows func(s string, more int)
	rows = func(s string, more int) {
		isAsSaid(t, s)
		if more == 0 {
			return
		}
		// What stands behind a wrong word makes no difference: P16.5 has it.
		if at, wrong := wrongAt(s); wrong && at < len(s) {
			return
		}
		for _, w := range all {
			rows(strings.TrimPrefix(s+" "+w, " "), more-1)
		}
	}
	rows("", 6)
}

// Texts that are right, and nearly right, of all sizes.
func TestP162Random(t *testing.T) {
	d := &dice{162}
	extra := []string{"true", "not", "prev", "once", "hist", "0", "64", "65", "05", "and", "or", "since", "c0", "c7", "c8", ">", "<", "high", "low", "known", "(", ")", "36.6", "-1", "-0", "?", "X"}
	for range 15000 {
		l := d.tree(1+d.below(40), nil)
		words := onlyWords(textOf(l, len(l)-1))
		for range pick(d, 0, 0, 1, 1, 2) {
			i := d.below(len(words))
			switch d.below(3) {
			case 0:
				words[i] = pick(d, extra...)
			case 1:
				words = slices.Insert(words, i, pick(d, extra...))
			case 2:
				words = slices.Delete(words, i, min(i+1+d.below(2), len(words)))
			}
			if len(words) == 0 {
				words = []string{"true"}
			}
		}
		isAsSaid(t, d.spread(words))
	}
}

func TestP162Noise(t *testing.T) {
	d := &dice{1620}
	for range 20000 {
		b := make([]byte, d.below(40))
		for i := range b {
			b[i] = pick(d, byte(d.below(256)), ' ', 'c', '0', '>', '(', 't')
		}
		isAsSaid(t, string(b))
	}
}

func TestP162Limit(t *testing.T) {
	blanks := strings.Repeat(" ", 1020)
	isParsed(t, blanks+"true", []api.Node{{}}, 0, api.OK)
	isParsed(t, "true"+blanks, []api.Node{{}}, 0, api.OK)
	isParsed(t, blanks+" true", nil, 1024, api.ErrLimit)
	isParsed(t, "true "+blanks, nil, 1024, api.ErrLimit)
	isParsed(t, "?"+blanks+"true", nil, 1024, api.ErrLimit)
	isParsed(t, blanks+"true or true", nil, 1024, api.ErrLimit)
	isParsed(t, strings.Repeat("(", 1024), nil, 32, api.ErrSyntax)
	isParsed(t, strings.Repeat("(", 1025), nil, 1024, api.ErrLimit)
	isParsed(t, strings.Repeat(" ", 1024), nil, 1024, api.ErrSyntax)
	isParsed(t, strings.Repeat("x", 1024), nil, 0, api.ErrSyntax)
	isParsed(t, strings.Repeat("not ", 256), nil, 1024, api.ErrSyntax)
	isParsed(t, strings.Repeat("not ", 255)+"true", nil, 1024, api.ErrMany)
	isParsed(t, strings.Repeat("x", 1<<20), nil, 1024, api.ErrLimit)
}

func TestP162Brackets(t *testing.T) {
	inside := func(n int, s string) string { return strings.Repeat("(", n) + s + strings.Repeat(")", n) }
	for n := range 33 {
		isParsed(t, inside(n, "true"), []api.Node{{}}, 0, api.OK)
	}
	for n := 33; n < 40; n++ {
		isParsed(t, inside(n, "true"), nil, 32, api.ErrSyntax)
	}
	// As many as one likes beside one another, and again behind those that are closed.
	isParsed(t, inside(32, "true")+" and "+inside(32, "true"), mustParse(t, "true and true"), 0, api.OK)
	isParsed(t, inside(32, "true")+" and "+inside(33, "true"), nil, 73+32, api.ErrSyntax)
	isParsed(t, inside(31, "(true) and (true)"), mustParse(t, "true and true"), 0, api.OK)
	isParsed(t, inside(31, "(true) and ((true))"), nil, 31+12, api.ErrSyntax)
	isParsed(t, inside(31, "not (true) and once 3 (true)"), mustParse(t, "not true and once 3 true"), 0, api.OK)
	isParsed(t, strings.Repeat("not (", 32)+"("+"true", nil, 160, api.ErrSyntax)
	var beside []string
	for range 16 {
		beside = append(beside, "((c1 low))")
	}
	if l := mustParse(t, strings.Join(beside, " or ")); len(l) != 31 {
		t.Errorf("%d nodes", len(l))
	}
}

func TestP162Many(t *testing.T) {
	for n := 1; n <= 60; n++ {
		s := strings.Repeat("prev ", n-1) + "true"
		_, at, e := Parse(s)
		if want := n > 32; want != (e == api.ErrMany) || want != (at == len(s)) || !want && (e != api.OK || at != 0) {
			t.Errorf("%d nodes: %d, %d", n, at, e)
		}
		isAsSaid(t, s)
		isAsSaid(t, "  "+s+"  ")
		isAsSaid(t, "true"+strings.Repeat(" and true", n))
		isAsSaid(t, "(true"+strings.Repeat(" since true) and (true", n)+")")
	}
	many := "true" + strings.Repeat(" or true", 100)
	isParsed(t, many, nil, len(many), api.ErrMany)
	isParsed(t, many+"   ", nil, len(many)+3, api.ErrMany)
	isParsed(t, "(("+many+"))", nil, len(many)+4, api.ErrMany)
	// A text that can't be read is told as such, wherever the word stands.
	isParsed(t, many+" )", nil, len(many)+1, api.ErrSyntax)
	isParsed(t, many+" or", nil, len(many)+3, api.ErrSyntax)
	isParsed(t, "("+many, nil, len(many)+1, api.ErrSyntax)
	isParsed(t, "true "+many, nil, 5, api.ErrSyntax)
}

func TestParseAnswersNewMemory(t *testing.T) {
	const s = "c0 high or true"
	first := mustParse(t, s)
	kept := slices.Clone(first)
	_ = append(first[:1], api.Node{Op: opKnown}, api.Node{Op: opKnown}, api.Node{Op: opKnown})
	if again := mustParse(t, s); !slices.Equal(again, kept) {
		t.Errorf("%v, not %v", again, kept)
	}
}
