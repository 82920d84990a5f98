package real

import "testing"

func TestClassAndCanon(t *testing.T) {
	for _, c := range []struct {
		a    uint64
		want int
	}{
		{0, Zero}, {1, Tiny}, {0x0008000000000000, Tiny}, {0x000FFFFFFFFFFFFF, Tiny},
		{0x0010000000000000, Normal}, {one, Normal}, {most, Normal},
		{infinite, Infinite}, {0x7FF0000000000001, NaN}, {0x7FF7FFFFFFFFFFFF, NaN},
		{0x7FF8000000000000, NaN}, {0x7FF8000000000001, NaN}, {0x7FFFFFFFFFFFFFFF, NaN},
	} {
		for _, a := range []uint64{c.a, c.a | 1<<63} {
			if got := Class(a); got != c.want {
				t.Errorf("Class(%X) = %d, not %d", a, got, c.want)
			}
			want := a
			if c.want == NaN {
				want = 0x7FF8000000000000
			}
			if got := Canon(a); got != want {
				t.Errorf("Canon(%X) = %X, not %X", a, got, want)
			}
		}
	}
}

func TestClassesHaveTheirNumbers(t *testing.T) {
	if NaN != 0 || Infinite != 1 || Zero != 2 || Tiny != 3 || Normal != 4 {
		t.Error("a class has another number than the document's")
	}
}

// notANumber is NaNs of many bits.
func notANumber() []uint64 {
	return []uint64{
		0x7FF8000000000000, 0xFFF8000000000000, 0x7FF0000000000001, 0xFFF0000000000001,
		0x7FF7FFFFFFFFFFFF, 0x7FFFFFFFFFFFFFFF, 0xFFFFFFFFFFFFFFFF, 0x7FF8000000000001, 0x7FF4000000000000,
	}
}

func TestEveryNaNCountsAsTheOne(t *testing.T) {
	const nan = 0x7FF8000000000000
	ones := []func(a uint64) uint64{Canon, Neg, Sqrt, Floor, Single}
	twos := []func(a, b uint64) uint64{Add, Sub, Mul, Div}
	for _, n := range notANumber() {
		for i, do := range ones {
			if got := do(n); got != nan {
				t.Errorf("call %d of one, of %X: %X", i, n, got)
			}
		}
		for i, do := range twos {
			for _, a := range append(edges(), notANumber()...) {
				if x, y := do(a, n), do(n, a); x != nan || y != nan {
					t.Errorf("call %d of two, of %X and %X: %X, %X", i, a, n, x, y)
				}
			}
		}
		for _, a := range append(edges(), notANumber()...) {
			if Less(a, n) || Less(n, a) || Equal(a, n) || Equal(n, a) {
				t.Errorf("%X and %X are held against each other", a, n)
			}
		}
		if got, ok := ToInt(n); got != 0 || ok {
			t.Errorf("ToInt(%X) = %d, %v", n, got, ok)
		}
	}
}

func TestNoOtherNaNComesOut(t *testing.T) {
	right := func(name string, got uint64) {
		if Class(got) == NaN && got != 0x7FF8000000000000 {
			t.Errorf("%s gives %X", name, got)
		}
	}
	everyTwo(func(a, b uint64) {
		right("Add", Add(a, b))
		right("Sub", Sub(a, b))
		right("Mul", Mul(a, b))
		right("Div", Div(a, b))
	})
	everyOne(func(a uint64) {
		right("Canon", Canon(a))
		right("Neg", Neg(a))
		right("Sqrt", Sqrt(a))
		right("Floor", Floor(a))
		right("Single", Single(a))
	})
}

func TestNeg(t *testing.T) {
	everyOne(func(a uint64) {
		want := a ^ 1<<63
		if Class(a) == NaN {
			want = 0x7FF8000000000000
		}
		if got := Neg(a); got != want {
			t.Errorf("Neg(%X) = %X, not %X", a, got, want)
		}
	})
}

// place is what the document's other words for Less and Equal make of a number that is no NaN.
func place(a uint64) int64 {
	n := int64(a &^ (1 << 63))
	if a>>63 == 1 {
		return -n
	}
	return n
}

func TestOrder(t *testing.T) {
	everyTwo(func(a, b uint64) {
		there := Class(a) != NaN && Class(b) != NaN
		if got, want := Less(a, b), there && place(a) < place(b); got != want {
			t.Errorf("Less(%X, %X) = %v", a, b, got)
		}
		if got, want := Equal(a, b), there && place(a) == place(b); got != want {
			t.Errorf("Equal(%X, %X) = %v", a, b, got)
		}
		if there && Class(a) != Infinite && Class(b) != Infinite {
			c := signed(a).Cmp(signed(b))
			if Less(a, b) != (c < 0) || Equal(a, b) != (c == 0) {
				t.Errorf("%X and %X lie otherwise than their values", a, b)
			}
		}
	})
}

func TestExamples(t *testing.T) {
	for _, c := range []struct {
		name      string
		got, want uint64
	}{
		{"1/10 + 2/10", Add(0x3FB999999999999A, 0x3FC999999999999A), 0x3FD3333333333334},
		{"1 + -1", Add(one, one|1<<63), 0},
		{"-0 + -0", Add(1<<63, 1<<63), 1 << 63},
		{"0 + -0", Add(0, 1<<63), 0},
		{"-0 - 0", Sub(1<<63, 0), 1 << 63},
		{"0 - 0", Sub(0, 0), 0},
		{"most + most", Add(most, most), infinite},
		{"most + 2^970", Add(most, 0x7C90000000000000), infinite},
		{"most and just less than 2^970", Add(most, 0x7C8FFFFFFFFFFFFF), most},
		{"infinite - infinite", Sub(infinite, infinite), 0x7FF8000000000000},
		{"3 tiny halved", Mul(3, half), 2},
		{"1 tiny halved", Mul(1, half), 0},
		{"-1 tiny halved", Mul(1<<63|1, half), 1 << 63},
		{"infinite times -0", Mul(infinite, 1<<63), 0x7FF8000000000000},
		{"-0 times 0", Mul(1<<63, 0), 1 << 63},
		{"1 over -0", Div(one, 1<<63), 0xFFF0000000000000},
		{"0 over 0", Div(0, 0), 0x7FF8000000000000},
		{"-1 over infinite", Div(one|1<<63, infinite), 1 << 63},
		{"root of 2", Sqrt(two), 0x3FF6A09E667F3BCD},
		{"root of -0", Sqrt(1 << 63), 1 << 63},
		{"root of less than -0", Sqrt(1<<63 | 1), 0x7FF8000000000000},
		{"root of -infinite", Sqrt(0xFFF0000000000000), 0x7FF8000000000000},
		{"floor of -1/2", Floor(0xBFE0000000000000), 0xBFF0000000000000},
		{"floor of 1/2", Floor(half), 0},
		{"floor of -0", Floor(1 << 63), 1 << 63},
		{"single of 1/10", Single(0x3FB999999999999A), 0x3FB99999A0000000},
		{"single of 2^-150", Single(0x3690000000000000), 0},
		{"single of -2^-150", Single(0xB690000000000000), 1 << 63},
		{"single beyond", Single(0x47EFFFFFF0000000), infinite},
		{"single of the greatest below", Single(0x47EFFFFFEFFFFFFF), 0x47EFFFFFE0000000},
		{"from 2^53 + 1", FromInt(9007199254740993), 0x4340000000000000},
		{"from 0", FromInt(0), 0},
		{"from -2^63", FromInt(-1 << 63), 0xC3E0000000000000},
		{"from 2^63 - 1", FromInt(1<<63 - 1), 0x43E0000000000000},
	} {
		if c.got != c.want {
			t.Errorf("%s: %X, not %X", c.name, c.got, c.want)
		}
	}
	if n, ok := ToInt(0xC3E0000000000000); n != -1<<63 || !ok {
		t.Error("-2^63", n, ok)
	}
	if n, ok := ToInt(0x43E0000000000000); n != 0 || ok {
		t.Error("2^63", n, ok)
	}
	if n, ok := ToInt(0xC3E0000000000001); n != 0 || ok {
		t.Error("below -2^63", n, ok)
	}
	if n, ok := ToInt(0xBFEFFFFFFFFFFFFF); n != 0 || !ok {
		t.Error("above -1", n, ok)
	}
	if !Equal(0, 1<<63) || Less(1<<63, 0) || Less(0x7FF8000000000001, one) || Less(one, 0x7FF8000000000001) {
		t.Error("order")
	}
}
