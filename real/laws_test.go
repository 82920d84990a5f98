package real

import (
	"cmp"
	"math/big"
	"math/rand"
	"slices"
	"testing"
)

// size is a number without its sign.
func size(a uint64) uint64 { return a &^ (1 << 63) }

// power is 2^k, where that is a normal number.
func power(k int) uint64 { return uint64(1023+k) << 52 }

func finite(a uint64) bool { return Class(a) >= Zero }

func TestOrderAndSignsOfOperands(t *testing.T) {
	everyTwo(func(a, b uint64) {
		if Add(a, b) != Add(b, a) || Mul(a, b) != Mul(b, a) {
			t.Errorf("%X and %X hang on their order", a, b)
		}
		if Mul(Neg(a), b) != Neg(Mul(a, b)) || Mul(a, Neg(b)) != Neg(Mul(a, b)) {
			t.Errorf("signs of %X times %X", a, b)
		}
		if Div(Neg(a), b) != Neg(Div(a, b)) || Div(a, Neg(b)) != Neg(Div(a, b)) {
			t.Errorf("signs of %X over %X", a, b)
		}
		if s := Add(a, b); Class(s) != Zero && Add(Neg(a), Neg(b)) != Neg(s) {
			t.Errorf("signs of %X and %X", a, b)
		}
	})
	everyOne(func(a uint64) {
		if Neg(Neg(a)) != Canon(a) {
			t.Errorf("Neg(Neg(%X)) = %X", a, Neg(Neg(a)))
		}
	})
}

func TestWhatGrows(t *testing.T) {
	all := append(edges(), some(1500)...)
	all = slices.DeleteFunc(all, func(a uint64) bool { return Class(a) == NaN })
	slices.SortFunc(all, func(a, b uint64) int { return cmp.Compare(place(a), place(b)) })
	for i, b := range all[1:] {
		a := all[i]
		for _, c := range edges() {
			if Less(Add(b, c), Add(a, c)) {
				t.Errorf("%X + %X is below %X + it", b, c, a)
			}
			if !Less(c, 0) && Less(Mul(b, c), Mul(a, c)) {
				t.Errorf("%X times %X is below %X times it", b, c, a)
			}
		}
		if Less(Sqrt(b), Sqrt(a)) || Less(Floor(b), Floor(a)) || Less(Single(b), Single(a)) {
			t.Errorf("%X is brought below %X", b, a)
		}
	}
}

func TestWholeNumbersAreExact(t *testing.T) {
	r := rand.New(rand.NewSource(6))
	whole := func(bits int) int64 {
		most := int64(1) << bits
		switch r.Intn(8) {
		case 0:
			return most
		case 1:
			return -most
		}
		return (r.Int63n(2*most+1) - most) >> r.Intn(bits)
	}
	for range 20000 {
		x, y := whole(52), whole(52)
		if Add(FromInt(x), FromInt(y)) != FromInt(x+y) || Sub(FromInt(x), FromInt(y)) != FromInt(x-y) {
			t.Errorf("%d and %d", x, y)
		}
		if n, ok := ToInt(FromInt(x)); n != x || !ok {
			t.Errorf("%d there and back is %d, %v", x, n, ok)
		}
		u, v := whole(26), whole(26)
		p, q := Mul(FromInt(u), FromInt(v)), FromInt(u*v)
		if !Equal(p, q) || u*v != 0 && p != q {
			t.Errorf("%d times %d is %X, not %X", u, v, p, q)
		}
	}
	for range 20000 {
		x, y := 1+r.Int63n(1<<52), 1+r.Int63n(1<<52)>>r.Intn(52)
		x -= x % y * int64(r.Intn(2)) // often a whole number of times, and so next to one that is none
		for _, x := range []int64{max(x-1, 1), max(x, 1), min(x+1, 1<<52)} {
			if Floor(Div(FromInt(x), FromInt(y))) != FromInt(x/y) {
				t.Errorf("%d over %d", x, y)
			}
		}
	}
}

func TestNearDifferencesAreExact(t *testing.T) {
	r := rand.New(rand.NewSource(7))
	check := func(a, b uint64) {
		if a == 0 || b == 0 || !finite(a) || !finite(b) || units(a).Cmp(twice(b)) > 0 || units(b).Cmp(twice(a)) > 0 {
			return
		}
		d := Sub(a, b)
		if signed(d).Cmp(new(big.Int).Sub(units(a), units(b))) != 0 || Add(d, b) != a {
			t.Errorf("%X - %X is %X", a, b, d)
		}
	}
	everyTwo(func(a, b uint64) { check(size(a), size(b)) })
	for _, a := range some(5000) {
		a = size(a)
		check(a, a+uint64(r.Int63n(1<<52)))
		check(a, a-uint64(r.Int63n(1<<52)))
		check(a, a+1<<52)
		check(a, a-1<<52)
		check(a, a+1)
	}
}

// twice is twice a number's size.
func twice(a uint64) *big.Int { return new(big.Int).Lsh(units(a), 1) }

func TestWhatAnAdditionLoses(t *testing.T) {
	everyTwo(func(a, b uint64) {
		if size(a) >= power(1022) || size(b) >= power(1022) {
			return
		}
		s := Add(a, b)
		u := Sub(s, a)
		e := Add(Sub(a, Sub(s, u)), Sub(b, u))
		exact := new(big.Int).Add(signed(a), signed(b))
		if told := new(big.Int).Add(signed(s), signed(e)); told.Cmp(exact) != 0 {
			t.Errorf("%X + %X is not %X and %X", a, b, s, e)
		}
	})
}

func TestRootOfASquare(t *testing.T) {
	everyOne(func(a uint64) {
		for _, a := range []uint64{a, a&^(0x7FF<<52) | uint64(1023-500+int(a>>3%1000))<<52} {
			if size(a) >= power(-500) && size(a) <= power(500) && Sqrt(Mul(a, a)) != size(a) {
				t.Errorf("the root of %X squared is %X", a, Sqrt(Mul(a, a)))
			}
		}
	})
	if a := power(-500); Sqrt(Mul(a, a)) != a {
		t.Error("2^-500")
	}
	if a := power(500); Sqrt(Mul(a, a)) != a {
		t.Error("2^500")
	}
}

func TestPowersOfTwo(t *testing.T) {
	all := append(edges(), some(300)...)
	for k := -1000; k <= 1000; k++ {
		p, q := power(k), power(-k)
		for _, a := range all {
			if Div(a, p) != Mul(a, q) {
				t.Errorf("%X over 2^%d", a, k)
			}
			e := int(a>>52&0x7FF) + k // the exponent of a times p, if that is normal
			if Class(a) == Normal && e >= 1 && e <= 2046 && Mul(Mul(a, p), q) != a {
				t.Errorf("%X times 2^%d and back", a, k)
			}
		}
	}
	everyOne(func(a uint64) {
		if Add(a, a) != Mul(a, two) {
			t.Errorf("twice %X", a)
		}
	})
}

func TestSingleAndFloorOnceMore(t *testing.T) {
	everyOne(func(a uint64) {
		if s := Single(a); Single(s) != s {
			t.Errorf("Single(Single(%X)) = %X", a, Single(s))
		}
		f := Floor(a)
		if Floor(f) != f {
			t.Errorf("Floor(Floor(%X)) = %X", a, Floor(f))
		}
		if Class(a) == NaN {
			return
		}
		if Less(a, f) {
			t.Errorf("Floor(%X) = %X is above it", a, f)
		}
		if whole := size(a) >= power(52); whole && f != a || !whole && !Less(a, Add(f, one)) {
			t.Errorf("Floor(%X) = %X", a, f)
		}
	})
}
