package decimal

import (
	"math/big"
	"strconv"
	"strings"
)

// A number is worked out to as many digits as fine says: one more than any shortest decimal has, so that the nearer of two is found.
const fine = 18

// order10 is the e for which m times 2^two is from 10^e to below 10^(e+1).
func order10(m uint64, two int) int {
	n := new(big.Int).SetUint64(m)
	// The logarithm of 2, near enough for every power of 2 that there is among the numbers.
	e := (n.BitLen() - 1 + two) * 1292913986 >> 32
	if over, under := scaled(n, two, -e-1); over.Cmp(under) >= 0 {
		e++
	}
	return e
}

// span is a number and the decimals that are read as it, in units of a power of 10 that gives it as many digits as fine says.
type span struct {
	from, to uint64 // the first and the last whole number of units that is read as it
	whole    uint64 // the number itself, without what is behind the point
	exact    bool   // nothing is behind the point
}

// spanOf is the span of a finite number above 0, in units of 10^ten.
func spanOf(bits uint64, ten int) span {
	m, two := parts(bits)
	over, under := scaled(big.NewInt(1), two-2, -ten)
	at := func(quarters uint64) (uint64, bool) {
		n := new(big.Int).SetUint64(quarters)
		n, rest := n.QuoRem(n.Mul(n, over), under, new(big.Int))
		return n.Uint64(), rest.Sign() == 0
	}
	even := m&1 == 0 // then what lies just between it and a neighbour is read as it
	var s span
	s.whole, s.exact = at(4 * m)
	from, sharp := at(4*m - below(m, two))
	if s.from = from; !sharp || !even {
		s.from++
	}
	to, sharp := at(4*m + 2)
	if s.to = to; sharp && !even {
		s.to--
	}
	return s
}

// parts takes a finite number above 0 apart: it is m times 2^two.
func parts(bits uint64) (m uint64, two int) {
	e := max(bits>>52, 1)
	return bits - (e-1)<<52, int(e-1) + least
}

// below is how far the numbers that are read as m times 2^two reach beneath it, in quarters of 2^two: only half as far, if those beneath it lie twice as near.
func below(m uint64, two int) uint64 {
	if m == 1<<52 && two > least {
		return 1
	}
	return 2
}

// shortest is the shortest decimal of a finite number above 0: its digits, and for which power of 10 the first one counts.
func shortest(bits uint64) (digits string, e int) {
	ten := order10(parts(bits)) - fine + 1
	s := spanOf(bits, ten)
	p, zeros := uint64(1e17), fine-1
	d, found := s.pick(p)
	for !found { // 17 digits are always enough, so p stays above 1
		p, zeros = p/10, zeros-1
		d, found = s.pick(p)
	}
	digits = strconv.FormatUint(d, 10)
	return strings.TrimRight(digits, "0"), ten + zeros + len(digits) - 1
}

// pick is the best multiple of p units that is read as the number, divided by p; false, if there is none.
func (s span) pick(p uint64) (uint64, bool) {
	low := s.whole / p
	high := low + 1
	isLow, isHigh := low*p >= s.from, high*p <= s.to
	if isLow && isHigh {
		return s.nearer(low, p), true
	}
	if isLow {
		return low, true
	}
	return high, isHigh
}

// nearer is low or low + 1, whose multiple of p lies nearer to the number; of two the even one.
func (s span) nearer(low, p uint64) uint64 {
	rest := s.whole - low*p
	switch {
	case rest < p/2:
		return low
	case rest > p/2 || !s.exact:
		return low + 1
	}
	return low + low&1
}
