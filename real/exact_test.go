package real

import (
	"math/big"
	"math/rand"
	"testing"
)

// What the document says of exact values, worked out with whole numbers alone: a size is counted in units of 2^-1075, so that the middle between two neighbours is a whole number of units too.

const (
	one      = 0x3FF0000000000000
	two      = 0x4000000000000000
	half     = 0x3FE0000000000000
	infinite = 0x7FF0000000000000
	most     = 0x7FEFFFFFFFFFFFFF
	unit     = 1075
)

// units is the size of a finite number of 64 bits.
func units(a uint64) *big.Int {
	e, f := a>>52&0x7FF, a&(1<<52-1)
	if e == 0 {
		return shifted(f, 1)
	}
	return shifted(1<<52+f, uint(e))
}

// units32 is the size of a finite number of 32 bits.
func units32(a uint64) *big.Int {
	e, f := a>>23, a&(1<<23-1)
	if e == 0 {
		return shifted(f, unit-149)
	}
	return shifted(1<<23+f, uint(e)-150+unit)
}

func shifted(n uint64, by uint) *big.Int {
	x := new(big.Int).SetUint64(n)
	return x.Lsh(x, by)
}

// signed is the value of a finite number.
func signed(a uint64) *big.Int {
	x := units(a)
	if a&sign != 0 {
		x.Neg(x)
	}
	return x
}

// nearest is the place of the size nearest to one that is told by how a number of units stands to it, among sizes that grow with their places up to last; of two just as near the even place.
func nearest(last uint64, size func(uint64) *big.Int, stands func(n *big.Int) int) uint64 {
	low, high := uint64(0), last
	for low < high {
		if m := high - (high-low)/2; stands(size(m)) <= 0 {
			low = m
		} else {
			high = m - 1
		}
	}
	if low == last {
		return low
	}
	middle := new(big.Int).Add(size(low), size(low+1))
	middle.Rsh(middle, 1)
	if c := stands(middle); c < 0 || c == 0 && low&1 == 1 {
		return low + 1
	}
	return low
}

// rounded is the number nearest to a size that is told like that, with this sign.
func rounded(s uint64, stands func(n *big.Int) int) uint64 {
	if stands(shifted(1<<54-1, 970+unit)) <= 0 {
		return s | infinite
	}
	return s | nearest(most, units, stands)
}

// against stands for a size of x units.
func against(x *big.Int) func(n *big.Int) int {
	return func(n *big.Int) int { return n.Cmp(x) }
}

func exactAdd(a, b uint64) uint64 {
	x := signed(a)
	x.Add(x, signed(b))
	switch {
	case Class(a) == NaN || Class(b) == NaN:
		return oneNaN
	case Class(a) == Infinite && Class(b) == Infinite && a != b:
		return oneNaN
	case Class(a) == Infinite:
		return a
	case Class(b) == Infinite:
		return b
	case x.Sign() == 0 && a == sign && b == sign:
		return sign
	case x.Sign() == 0:
		return 0
	case x.Sign() < 0:
		return rounded(sign, against(x.Abs(x)))
	}
	return rounded(0, against(x))
}

func exactMul(a, b uint64) uint64 {
	s := (a ^ b) & sign
	ca, cb := Class(a), Class(b)
	switch {
	case ca == NaN || cb == NaN || ca == Infinite && cb == Zero || ca == Zero && cb == Infinite:
		return oneNaN
	case ca == Infinite || cb == Infinite:
		return s | infinite
	case ca == Zero || cb == Zero:
		return s
	}
	x := new(big.Int).Mul(units(a), units(b))
	return rounded(s, func(n *big.Int) int { return new(big.Int).Lsh(n, unit).Cmp(x) })
}

func exactDiv(a, b uint64) uint64 {
	s := (a ^ b) & sign
	ca, cb := Class(a), Class(b)
	switch {
	case ca == NaN || cb == NaN || ca == Infinite && cb == Infinite || ca == Zero && cb == Zero:
		return oneNaN
	case ca == Infinite || cb == Zero:
		return s | infinite
	case ca == Zero || cb == Infinite:
		return s
	}
	x, y := units(a), units(b)
	x.Lsh(x, unit)
	return rounded(s, func(n *big.Int) int { return new(big.Int).Mul(n, y).Cmp(x) })
}

func exactSqrt(a uint64) uint64 {
	switch c := Class(a); {
	case c == NaN || a&sign != 0 && c != Zero:
		return oneNaN
	case c == Zero || c == Infinite:
		return a
	}
	x := units(a)
	x.Lsh(x, unit)
	return rounded(0, func(n *big.Int) int { return new(big.Int).Mul(n, n).Cmp(x) })
}

func exactFloor(a uint64) uint64 {
	switch Class(a) {
	case NaN:
		return oneNaN
	case Zero, Infinite:
		return a
	}
	x := signed(a)
	x.Rsh(x, unit) // of a number below 0 this is the floor too
	return exactWhole(x)
}

// exactWhole is a whole number, rounded; 0 for 0.
func exactWhole(x *big.Int) uint64 {
	y := new(big.Int).Abs(x)
	switch y.Lsh(y, unit); x.Sign() {
	case 0:
		return 0
	case -1:
		return rounded(sign, against(y))
	}
	return rounded(0, against(y))
}

func exactSingle(a uint64) uint64 {
	switch Class(a) {
	case NaN:
		return oneNaN
	case Zero, Infinite:
		return a
	}
	s, x := a&sign, units(a)
	if x.Cmp(shifted(1<<25-1, 103+unit)) >= 0 {
		return s | infinite
	}
	y := units32(nearest(0x7F7FFFFF, units32, against(x)))
	return s | nearest(most, units, against(y))
}

func exactToInt(a uint64) (int64, bool) {
	if c := Class(a); c == NaN || c == Infinite {
		return 0, false
	}
	x := signed(a)
	x.Quo(x, shifted(1, unit))
	if !x.IsInt64() {
		return 0, false
	}
	return x.Int64(), true
}

// edges is the numbers about which the document says something of their own, and their neighbours, with both signs.
func edges() []uint64 {
	var all []uint64
	for _, a := range []uint64{
		0, 1, 2, 3, 4, 0x000FFFFFFFFFFFFF, 0x0010000000000000, 0x0010000000000001, // tiny, and where normal ones begin
		0x0008000000000000, 0x0020000000000000, 0x001FFFFFFFFFFFFF,
		0x3FB999999999999A, 0x3FC999999999999A, 0x3FD5555555555555, // 1/10, 2/10, 1/3
		half - 1, half, half + 1, one - 1, one, one + 1, two - 1, two, two + 1,
		0x3FF8000000000000, 0x4004000000000000, 0x4007FFFFFFFFFFFF, 0x4008000000000000, // 1.5, 2.5, below 3, 3
		0x1FF0000000000000, 0x5FF0000000000000, 0x5FE0000000000001, // where squares leave the numbers
		0x3CA0000000000000, 0x3CA0000000000001, 0x3CB0000000000000, // half of what lies behind 1
		0x432FFFFFFFFFFFFF, 0x4330000000000000, 0x4330000000000001, 0x433FFFFFFFFFFFFF, 0x4340000000000000, 0x4340000000000001, // 2^52, 2^53
		0x43DFFFFFFFFFFFFF, 0x43E0000000000000, 0x43E0000000000001, 0x43F0000000000000, // 2^63, 2^64
		0x7C90000000000000 - 1, 0x7C90000000000000, 0x7C90000000000001, 0x7CA0000000000000, // 2^970: half of what lies behind the greatest
		0x7FE0000000000000, 0x7FD0000000000000, most - 1, most, infinite,
		0x7FF0000000000001, 0x7FF7FFFFFFFFFFFF, 0x7FF8000000000000, 0x7FF8000000000001, 0x7FFFFFFFFFFFFFFF,
		0x3690000000000000 - 1, 0x3690000000000000, 0x3690000000000001, 0x36A0000000000000, 0x36A8000000000000, 0x36B0000000000000, // 2^-150
		0x380FFFFFFFFFFFFF, 0x380FFFFFE0000000, 0x3810000000000000, 0x380FFFFFC0000000, 0x380FFFFFD0000000, // where normal ones of 32 bits begin
		0x3FF0000010000000, 0x3FF000000FFFFFFF, 0x3FF0000010000001, 0x3FF0000030000000, // halves of the last bit of 32
		0x47EFFFFFE0000000, 0x47EFFFFFEFFFFFFF, 0x47EFFFFFF0000000, 0x47EFFFFFF0000001, 0x47F0000000000000, // the greatest of 32 bits
	} {
		all = append(all, a, a|sign)
	}
	return all
}

// some is numbers of all sorts, the same ones each time.
func some(n int) []uint64 {
	r := rand.New(rand.NewSource(3))
	all := make([]uint64, 0, n)
	for len(all) < n {
		a := r.Uint64()
		switch r.Intn(6) {
		case 0: // any bits
		case 1: // a size near 1
			a = a&(sign|1<<52-1) | uint64(1023-60+r.Intn(120))<<52
		case 2: // few bits of the fraction
			a &= sign | 0x7FF<<52 | 7<<49
		case 3: // tiny, or just above
			a &= sign | 1<<53 - 1
		case 4: // near the numbers of 32 bits
			a = a&(sign|0xFFFFFF<<28) | uint64(1023-152+r.Intn(282))<<52
		case 5: // a whole number
			a = exactWhole(big.NewInt(int64(a) >> r.Intn(64)))
		}
		all = append(all, a)
	}
	return all
}

// everyOne hands each number to do.
func everyOne(do func(a uint64)) {
	for _, a := range append(edges(), some(3000)...) {
		do(a)
	}
}

// everyTwo hands pairs to do: all of the edges, some with one another, and some with what is near them.
func everyTwo(do func(a, b uint64)) {
	for _, a := range edges() {
		for _, b := range edges() {
			do(a, b)
		}
	}
	r := rand.New(rand.NewSource(4))
	all := some(3000)
	for i, a := range all {
		do(a, all[r.Intn(len(all))])
		do(a, all[len(all)-1-i])
		do(a, a^sign+uint64(r.Intn(9))-4)
		do(a, a+uint64(r.Intn(110)-55)<<52^uint64(r.Intn(2))<<63)
	}
}

func TestTwoOperandsAgainstExact(t *testing.T) {
	everyTwo(func(a, b uint64) {
		for _, c := range []struct {
			name      string
			do, exact func(a, b uint64) uint64
		}{{"Add", Add, exactAdd}, {"Mul", Mul, exactMul}, {"Div", Div, exactDiv}} {
			if got, want := c.do(a, b), c.exact(a, b); got != want {
				t.Errorf("%s(%X, %X) = %X, not %X", c.name, a, b, got, want)
			}
		}
		if got, want := Sub(a, b), Add(a, Neg(b)); got != want {
			t.Errorf("Sub(%X, %X) = %X, not %X", a, b, got, want)
		}
	})
}

func TestOneOperandAgainstExact(t *testing.T) {
	everyOne(func(a uint64) {
		for _, c := range []struct {
			name      string
			do, exact func(a uint64) uint64
		}{{"Sqrt", Sqrt, exactSqrt}, {"Floor", Floor, exactFloor}, {"Single", Single, exactSingle}} {
			if got, want := c.do(a), c.exact(a); got != want {
				t.Errorf("%s(%X) = %X, not %X", c.name, a, got, want)
			}
		}
	})
}

func TestToIntAgainstExact(t *testing.T) {
	everyOne(func(a uint64) {
		got, ok := ToInt(a)
		if want, there := exactToInt(a); got != want || ok != there {
			t.Errorf("ToInt(%X) = %d, %v, not %d, %v", a, got, ok, want, there)
		}
	})
}

func TestFromIntAgainstExact(t *testing.T) {
	check := func(n int64) {
		if got, want := FromInt(n), exactWhole(big.NewInt(n)); got != want {
			t.Errorf("FromInt(%d) = %X, not %X", n, got, want)
		}
	}
	for k := range 64 {
		for d := int64(-5); d <= 5; d++ {
			check(1<<k + d)
			check(-(1 << k) + d)
			check(3<<k + d)
		}
	}
	r := rand.New(rand.NewSource(5))
	for range 3000 {
		check(int64(r.Uint64()) >> r.Intn(64))
	}
}
