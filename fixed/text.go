package fixed

import (
	"strconv"
	"strings"

	"handbell/api"
)

const (
	maxWhole = 7 // digits ahead of the point
	maxPart  = 3 // digits behind it
)

// Text is a number's text; Parse reads one.
func Text(v int) string {
	v = Clamp(v)
	sign := ""
	if v < 0 {
		sign = "-"
	}
	whole := strconv.Itoa(size(v) / one)
	return sign + whole + partText(size(v)%one)
}

// partText is the point with the digits behind it: nothing of a whole number.
func partText(part int) string {
	var text []byte
digits:
	for unit := one / 10; ; unit /= 10 {
		switch {
		case part == 0:
			break digits
		case len(text) == 0:
			text = append(text, '.')
		}
		text = append(text, byte('0'+part/unit))
		part %= unit
	}
	return string(text)
}

func Parse(s string) (int, api.Errno) {
	digits, minus := strings.CutPrefix(s, "-")
	whole, part, point := strings.Cut(digits, ".")
	if !isWhole(whole) || point && !isPart(part) {
		return 0, api.ErrSyntax
	}
	v := number(whole)*one + thousandths(part)
	if minus && v == 0 {
		return 0, api.ErrSyntax
	}
	if v > api.Most {
		return 0, api.ErrRange
	}
	if minus {
		v = -v
	}
	return v, api.OK
}

func isWhole(s string) bool {
	if len(s) > 1 && s[0] == '0' {
		return false
	}
	return areDigits(s, maxWhole)
}

func isPart(s string) bool {
	return areDigits(s, maxPart)
}

// areDigits: one digit at least, most at most; the length is asked first, so that a long text is not gone through.
func areDigits(s string, most int) bool {
	if len(s) < 1 || len(s) > most {
		return false
	}
	for _, c := range []byte(s) {
		if c < '0' || c > '9' {
			return false
		}
	}
	return true
}

// thousandths of what stands behind the point: noughts that are left out at its end are put back.
func thousandths(part string) int {
	return number(part + strings.Repeat("0", maxPart-len(part)))
}

func number(digits string) int {
	v := 0
	for _, c := range []byte(digits) {
		v = 10*v + int(c-'0')
	}
	return v
}
