package decimal

import (
	"strconv"
	"strings"
)

// numeral is what a numeral says: its digits as a whole number, times 10 to the exponent.
type numeral struct {
	digits   string
	exponent int
}

// isDigit holds a rune against the digits; what is no UTF-8 comes as a rune that is none.
func isDigit(r rune) bool { return '0' <= r && r <= '9' }

// cutSign takes one "-" or "+" away, if the text begins with it.
func cutSign(s string) (minus bool, rest string) {
	if rest, found := strings.CutPrefix(s, "-"); found {
		return true, rest
	}
	return false, strings.TrimPrefix(s, "+")
}

// allDigits: whether the text is one digit or more.
func allDigits(s string) bool {
	for _, r := range s {
		if !isDigit(r) {
			return false
		}
	}
	return s != ""
}

// magnitude is the number that the digits write; false, if it is above 2^63.
func magnitude(digits string) (uint64, bool) {
	n := uint64(0)
	for _, r := range digits {
		d := uint64(r - '0')
		if n > (1<<63-d)/10 {
			return 0, false
		}
		n = 10*n + d
	}
	return n, true
}

// readNumeral takes a numeral without a sign apart; false, if the text is none.
func readNumeral(s string) (numeral, bool) {
	exponent := 0
	if at := strings.IndexAny(s, "eE"); at >= 0 {
		e, ok := readExponent(s[at+1:])
		if !ok {
			return numeral{}, false
		}
		s, exponent = s[:at], e
	}
	digits, behind, ok := readFront(s)
	if !ok {
		return numeral{}, false
	}
	return numeral{digits, exponent - behind}, true
}

// readExponent reads what stands behind an "e": a sign or none, and one to four digits.
func readExponent(s string) (int, bool) {
	minus, digits := cutSign(s)
	if !allDigits(digits) || len(digits) > 4 {
		return 0, false
	}
	n, _ := magnitude(digits)
	if minus {
		return -int(n), true
	}
	return int(n), true
}

// readFront reads digits with at most one point, and tells how many of them stand behind it.
func readFront(s string) (digits string, behind int, ok bool) {
	var all strings.Builder
	point := false
	for _, r := range s {
		switch {
		case isDigit(r):
			all.WriteRune(r)
			if point {
				behind++
			}
		case r == '.' && !point:
			point = true
		default:
			return "", 0, false
		}
	}
	return all.String(), behind, all.Len() > 0
}

// layOut writes a decimal whose first digit counts for 10 to the e.
func layOut(digits string, e int) string {
	switch {
	case e < -6 || e > 20:
		return withExponent(digits, e)
	case e < 0:
		return "0." + strings.Repeat("0", -e-1) + digits
	}
	digits += strings.Repeat("0", max(e+2-len(digits), 0))
	return digits[:e+1] + "." + digits[e+1:]
}

// withExponent writes a decimal with one digit ahead of its point.
func withExponent(digits string, e int) string {
	text := digits[:1]
	if len(digits) > 1 {
		text += "." + digits[1:]
	}
	if e < 0 {
		return text + "e" + strconv.Itoa(e)
	}
	return text + "e+" + strconv.Itoa(e)
}
