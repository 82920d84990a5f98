package decimal

import (
	"math"
	"math/big"
	"math/rand"
	"slices"
	"strings"
)

// This file works out by the words of the document, with fractions that are exact, what the other tests hold the layer against.

// exactly is the value of a finite number that has the sign +; infinity counts as 2^1024.
func exactly(bits uint64) *big.Rat {
	if bits == infinity {
		return new(big.Rat).SetInt(new(big.Int).Lsh(big.NewInt(1), 1024))
	}
	return new(big.Rat).SetFloat64(math.Float64frombits(bits))
}

// between is the value in the middle between a number with the sign + and the next greater one.
func between(bits uint64) *big.Rat {
	sum := new(big.Rat).Add(exactly(bits), exactly(bits+1))
	return sum.Mul(sum, big.NewRat(1, 2))
}

// isNearest: whether the number is the one nearest to a value of 0 or above, and of two the one whose bits are even.
func isNearest(bits uint64, v *big.Rat) bool {
	if bits > infinity {
		return false
	}
	if bits > 0 {
		if c := v.Cmp(between(bits - 1)); c < 0 || c == 0 && bits&1 == 1 {
			return false
		}
	}
	if bits < infinity {
		if c := v.Cmp(between(bits)); c > 0 || c == 0 && bits&1 == 1 {
			return false
		}
	}
	return true
}

// tenTo is 10 to the q.
func tenTo(q int) *big.Rat {
	n := new(big.Int).Exp(big.NewInt(10), big.NewInt(int64(max(q, -q))), nil)
	if q < 0 {
		return new(big.Rat).SetFrac(big.NewInt(1), n)
	}
	return new(big.Rat).SetInt(n)
}

// aDecimal is a decimal of the document: its digits, and the q.
type aDecimal struct {
	digits string
	q      int
}

// fineUnits is how many of the oracle's units go into 1: so many that each number, each middle between two and each decimal that is looked at is a whole number of them.
func fineUnits() *big.Rat {
	two := new(big.Rat).SetInt(new(big.Int).Lsh(big.NewInt(1), 1076))
	return two.Mul(two, tenTo(345))
}

func inUnits(v *big.Rat) *big.Int {
	return new(big.Int).Set(new(big.Rat).Mul(v, fineUnits()).Num())
}

// reach is what is read as a number, in units: from low to high, the ends only if the number's bits are even.
type reach struct {
	x, low, high *big.Int
	even         bool
	e            int // about the logarithm of the number
}

func reachOf(bits uint64) reach {
	// By Log2, since Log10 is far off for the least numbers.
	e := int(math.Floor(math.Log2(math.Float64frombits(bits)) * math.Ln2 / math.Ln10))
	return reach{inUnits(exactly(bits)), inUnits(between(bits - 1)), inUnits(between(bits)), bits&1 == 0, e}
}

func (r reach) holds(v *big.Int) bool {
	low, high := v.Cmp(r.low), v.Cmp(r.high)
	return low > 0 && high < 0 || r.even && (low == 0 || high == 0)
}

func (r reach) away(v *big.Int) *big.Int {
	d := new(big.Int).Sub(v, r.x)
	return d.Abs(d)
}

// best is the nearest of all decimals with n digits that are read as the number; of two the one whose D is even.
func (r reach) best(n int) (best aDecimal, found bool) {
	var away *big.Int
	for q := r.e - n - 1; q <= r.e-n+3; q++ {
		unit := inUnits(tenTo(q))
		d := new(big.Int).Quo(r.low, unit)
		for ; new(big.Int).Mul(d, unit).Cmp(r.high) <= 0 && len(d.String()) <= n; d.Add(d, big.NewInt(1)) {
			v := new(big.Int).Mul(d, unit)
			digits := d.String()
			if len(digits) < n || strings.HasSuffix(digits, "0") || !r.holds(v) {
				continue
			}
			if a := r.away(v); away == nil || a.Cmp(away) < 0 || a.Cmp(away) == 0 && d.Bit(0) == 0 {
				best, found, away = aDecimal{digits, q}, true, a
			}
		}
	}
	return best, found
}

// theShortest is the shortest decimal of a finite number above 0.
func theShortest(bits uint64) aDecimal {
	r := reachOf(bits)
	for n := 1; ; n++ {
		if d, found := r.best(n); found {
			return d
		}
	}
}

// written is the text of a decimal, put down digit by digit as the document says.
func written(d aDecimal) string {
	n := len(d.digits)
	e := d.q + n - 1
	digit := func(i int) string {
		if i < n {
			return d.digits[i : i+1]
		}
		return "0"
	}
	text := ""
	switch {
	case e >= 0 && e <= 20:
		for i := 0; i <= e; i++ {
			text += digit(i)
		}
		text += "."
		for i := e + 1; i < n || i == e+1; i++ {
			text += digit(i)
		}
	case e < 0 && e >= -6:
		text = "0."
		for i := 0; i < -e-1; i++ {
			text += "0"
		}
		text += d.digits
	default:
		text = d.digits[:1]
		if n > 1 {
			text += "." + d.digits[1:]
		}
		text += "e"
		if e >= 0 {
			text += "+"
		}
		text += big.NewInt(int64(e)).String()
	}
	return text
}

// edges are finite numbers above 0 where something changes: the ends, powers of 2 and of 10, whole numbers, each with its neighbours.
func edges() []uint64 {
	var all []uint64
	add := func(bits uint64) {
		for _, b := range []uint64{bits - 2, bits - 1, bits, bits + 1, bits + 2} {
			if b > 0 && b < infinity {
				all = append(all, b)
			}
		}
	}
	for e := uint64(0); e < 2047; e++ {
		add(e << 52)
	}
	for k := uint(0); k < 52; k++ {
		add(1 << k)
	}
	for k := -324; k <= 308; k++ {
		v := tenTo(k)
		for _, d := range []int64{1, 5, 9} {
			f, _ := new(big.Rat).Mul(v, big.NewRat(d, 1)).Float64()
			add(math.Float64bits(f))
		}
	}
	for n := uint64(3); n < 40; n++ {
		add(n)
		add(math.Float64bits(float64(n)))
		add(math.Float64bits(float64(n) / 100))
	}
	add(infinity)
	slices.Sort(all)
	return slices.Compact(all)
}

// ties are numbers for which two decimals of the fewest digits are just as near.
func ties() []uint64 {
	var all []uint64
	for _, f := range []float64{1<<50 + 0.25, 1<<50 + 0.75, 1<<50 + 1.25, 1<<50 + 1.75, 1<<50 + 2.25, 1<<50 + 7.75, 1<<51 - 0.25, 1<<51 - 0.75} {
		all = append(all, math.Float64bits(f))
	}
	return all
}

// some are numbers above 0 without order, but the same at each run: of all exponents, and of few digits.
func some(n int) []uint64 {
	r := rand.New(rand.NewSource(4))
	var all []uint64
	for len(all) < n {
		if bits := r.Uint64() >> 1; bits > 0 && bits < infinity {
			all = append(all, bits)
		}
		short := float64(r.Int63n(1e6)+1) * math.Pow(10, float64(r.Intn(40)-20))
		all = append(all, math.Float64bits(short))
		all = append(all, uint64(r.Int63n(1<<uint(r.Intn(52)+1)))+1)
	}
	return all
}
