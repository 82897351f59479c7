package fixed

import (
	"fmt"
	"math"
	"math/big"
	"regexp"
	"strings"
	"testing"

	"handbell/api"
)

// P1.2

func TestTextOfNumbers(t *testing.T) {
	for v, want := range map[int]string{
		0:              "0",
		1:              "0.001",
		-1:             "-0.001",
		-5:             "-0.005",
		10:             "0.01",
		100:            "0.1",
		101:            "0.101",
		110:            "0.11",
		-999:           "-0.999",
		1000:           "1",
		-1000:          "-1",
		1001:           "1.001",
		1010:           "1.01",
		1100:           "1.1",
		1230:           "1.23",
		10000:          "10",
		36600:          "36.6",
		-36600:         "-36.6",
		1000000000:     "1000000",
		1000000001:     "1000000.001",
		2147483000:     "2147483",
		most:           "2147483.647",
		-most:          "-2147483.647",
		most + 1:       "2147483.647",
		-most - 1:      "-2147483.647",
		math.MaxInt:    "2147483.647",
		math.MinInt:    "-2147483.647",
		-1 << 40:       "-2147483.647",
		most - 7:       "2147483.64",
		-(most - 47):   "-2147483.6",
		-(most - 1647): "-2147482",
	} {
		if got := Text(v); got != want {
			t.Errorf("Text(%d): %q, not %q", v, got, want)
		}
	}
}

func TestParseOfTexts(t *testing.T) {
	for s, want := range map[string]int{
		"0":            0,
		"0.0":          0,
		"0.00":         0,
		"0.000":        0,
		"1":            1000,
		"-1":           -1000,
		"10":           10000,
		"36.6":         36600,
		"36.60":        36600,
		"36.600":       36600,
		"1.50":         1500,
		"2.000":        2000,
		"-2.000":       -2000,
		"-0.005":       -5,
		"0.05":         50,
		"0.050":        50,
		"-0.10":        -100,
		"1000000":      1000000000,
		"2147483":      2147483000,
		"2147483.0":    2147483000,
		"2147483.64":   2147483640,
		"2147483.640":  2147483640,
		"2147483.647":  most,
		"-2147483.647": -most,
	} {
		got, e := Parse(s)
		isAnswer(t, s, got, e, want, api.OK)
	}
}

func TestParseOfWhatIsNoText(t *testing.T) {
	for _, s := range []string{
		"", "-", "-0", "-0.0", "-0.000", "01", "00", "-01", "00.5", "0000001", ".5", "-.5", ".", "-.", "5.", "-5.", "1.2345", "0.0000", "2147483.6470",
		"12345678", "-12345678", "00000000", "12345678.5", "99999999", "+1", "+0", "1e3", "1E3", " 1", "1 ", "1. 5", "1 .5", "\t1", "1\n", "1\x00",
		"--1", "-+1", "1-", "1.-5", "1.+5", "1.5.5", "1..5", "1,5", "0x1", "1_0", "1.5-", "a", "1.a", "NaN", "Inf",
		"/", ":", "1/", "1.:", "\u0663", "1.\u0663", "\uff11", "\u22121", "\xff",
		strings.Repeat("1", 1000), "1." + strings.Repeat("0", 1000), strings.Repeat("-", 1000),
	} {
		got, e := Parse(s)
		isAnswer(t, fmt.Sprintf("%q", s), got, e, 0, api.ErrSyntax)
	}
}

func TestParseBeyondMost(t *testing.T) {
	for _, s := range []string{"2147483.648", "-2147483.648", "2147483.65", "2147483.7", "-2147483.7", "2147483.650", "2147484", "-2147484", "2147484.0", "9999999", "-9999999", "9999999.999", "-9999999.999"} {
		got, e := Parse(s)
		isAnswer(t, s, got, e, 0, api.ErrRange)
	}
}

// TestParseOfEveryShortText holds Parse against the chapter's words, as a pattern, for all texts of up to six of these bytes.
func TestParseOfEveryShortText(t *testing.T) {
	form := regexp.MustCompile(`^-?(0|[1-9][0-9]{0,6})(\.[0-9]{1,3})?$`)
	nothing := regexp.MustCompile(`^-[0.]*$`)
	var all func(s string, more int)
	all = func(s string, more int) {
		got, e := Parse(s)
		if may := form.MatchString(s) && !nothing.MatchString(s); may != (e == api.OK) || !may && (got != 0 || e != api.ErrSyntax) {
			t.Errorf("%q: %d, error %d", s, got, e)
		}
		if e == api.OK {
			value, _ := new(big.Rat).SetString(s)
			if value.Cmp(big.NewRat(int64(got), 1000)) != 0 {
				t.Errorf("%q: read as %d", s, got)
			}
		}
		if more > 0 {
			for _, c := range "-.019" {
				all(s+string(c), more-1)
			}
		}
	}
	all("", 6)
}

// P1.3

// some are numbers all over the bounds, each digit of thousandths among them.
func some() []int {
	out := edges()
	for v := -20000; v <= 20000; v++ {
		out = append(out, v)
	}
	for v := -most; v <= most; v += 98765 {
		out = append(out, v)
	}
	for d := range 2000 {
		out = append(out, most-d, d-most)
	}
	return out
}

func TestParseOfTextIsTheNumber(t *testing.T) {
	for _, v := range some() {
		s := Text(v)
		got, e := Parse(s)
		isAnswer(t, s, got, e, Clamp(v), api.OK)
	}
}

func TestTextOfWhatParseTells(t *testing.T) {
	for _, s := range []string{"0.0", "0.000", "1.50", "2.000", "-0.10", "-7.000", "36.60", "2147483.640", "-2147483.640", "1000000.000", "2147483.647", "-2147483.647"} {
		first, e := Parse(s)
		isAnswer(t, s, first, e, first, api.OK)
		again, e := Parse(Text(first))
		isAnswer(t, s+", written and read again", again, e, first, api.OK)
	}
}
