package decimal

import (
	"math/big"
	"strings"
)

// All finite numbers are multiples of 2^least.
const least = -1074

// Values of 10^tooGreat or above are read as infinity, values below 10^tooSmall as 0.
const (
	tooGreat = 309
	tooSmall = -324
)

// scaled is n times 2^two times 10^ten, as a fraction of whole numbers.
func scaled(n *big.Int, two, ten int) (over, under *big.Int) {
	over = new(big.Int).Mul(n, powerOf10(max(ten, 0)))
	under = powerOf10(max(-ten, 0))
	over.Lsh(over, uint(max(two, 0)))
	under.Lsh(under, uint(max(-two, 0)))
	return over, under
}

func powerOf10(k int) *big.Int {
	return new(big.Int).Exp(big.NewInt(10), big.NewInt(int64(k)), nil)
}

// nearest is the number nearest to what the numeral says.
func (n numeral) nearest() uint64 {
	digits := strings.TrimLeft(n.digits, "0")
	ahead := len(digits) + n.exponent // the value is below 10^ahead, and not below a tenth of that
	switch {
	case digits == "" || ahead <= tooSmall:
		return 0
	case ahead > tooGreat:
		return infinity
	}
	d, _ := new(big.Int).SetString(digits, 10)
	return round(d, n.exponent)
}

// round is the number nearest to d times 10^ten, which is above 0.
func round(d *big.Int, ten int) uint64 {
	over, under := scaled(d, 0, ten)
	unit := max(order2(over, under)-52, least)
	over, under = scaled(d, -unit, ten)
	m, rest := new(big.Int).QuoRem(over, under, new(big.Int))
	bits := uint64(unit-least)<<52 + m.Uint64()
	// One up in the bits is the next greater number, be it of the next exponent or infinity.
	switch rest.Lsh(rest, 1).Cmp(under) {
	case 0:
		bits += bits & 1
	case 1:
		bits++
	}
	return min(bits, infinity)
}

// order2 is the b for which the fraction is from 2^b to below 2^(b+1).
func order2(over, under *big.Int) int {
	b := over.BitLen() - under.BitLen()
	high := new(big.Int).Lsh(over, uint(max(-b, 0)))
	if high.Cmp(new(big.Int).Lsh(under, uint(max(b, 0)))) < 0 {
		return b - 1
	}
	return b
}
