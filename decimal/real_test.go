package decimal

import (
	"math"
	"strconv"
	"strings"
	"testing"

	"portage/api"
	"portage/real"
)

func TestRealOfWhatIsNoDecimal(t *testing.T) {
	for bits, want := range map[uint64]string{0: "0.0", 1 << 63: "-0.0", infinity: "inf", 1<<63 | infinity: "-inf"} {
		if got := Real(bits); got != want {
			t.Errorf("Real(%x) = %q, want %q", bits, got, want)
		}
	}
	for _, bits := range []uint64{oneNaN, 0x7FF0000000000001, 0xFFF0000000000001, 0xFFF8000000000000, 0x7FFFFFFFFFFFFFFF, 0xFFFFFFFFFFFFFFFF, 0x7FF4000000000000} {
		if got := Real(bits); got != "nan" {
			t.Errorf("Real(%x) = %q, want nan", bits, got)
		}
	}
}

func TestRealLaidOut(t *testing.T) {
	for _, c := range []struct {
		x    float64
		want string
	}{
		{1, "1.0"}, {-1.5, "-1.5"}, {0.1, "0.1"}, {-0.1, "-0.1"}, {100, "100.0"}, {123456.75, "123456.75"}, {12, "12.0"}, {120, "120.0"},
		{0.5, "0.5"}, {0.05, "0.05"}, {0.0012, "0.0012"}, {0.000001, "0.000001"}, {0.0000019, "0.0000019"}, {0.000009999, "0.000009999"},
		{0.0000009, "9e-7"}, {0.00000015, "1.5e-7"}, {-0.00000015, "-1.5e-7"}, {9.99e-7, "9.99e-7"}, {1e-10, "1e-10"}, {1.25e-100, "1.25e-100"},
		{1e15, "1000000000000000.0"}, {1e16, "10000000000000000.0"}, {1 << 53, "9007199254740992.0"}, {-(1 << 53), "-9007199254740992.0"},
		{1e20, "100000000000000000000.0"}, {1.5e20, "150000000000000000000.0"}, {999999999999999900000, "999999999999999900000.0"}, {1.2345678901234567e20, "123456789012345670000.0"},
		{1e21, "1e+21"}, {-1e21, "-1e+21"}, {1.5e22, "1.5e+22"}, {1e23, "1e+23"}, {9.5e-323, "9.4e-323"}, {1e100, "1e+100"},
		{math.SmallestNonzeroFloat64, "5e-324"}, {2 * math.SmallestNonzeroFloat64, "1e-323"}, {3 * math.SmallestNonzeroFloat64, "1.5e-323"}, {math.MaxFloat64, "1.7976931348623157e+308"}, {-math.MaxFloat64, "-1.7976931348623157e+308"},
		{0x1p-1022, "2.2250738585072014e-308"}, {0x1p-44, "5.684341886080802e-14"}, {0x1p-1021, "4.450147717014403e-308"},
		{1.0 / 3, "0.3333333333333333"}, {2.0 / 3, "0.6666666666666666"}, {0.30000000000000004, "0.30000000000000004"}, {math.Pi * 1e8, "314159265.35897934"},
		{1<<50 + 0.25, "1125899906842624.2"}, {1<<50 + 0.75, "1125899906842624.8"}, {1<<51 - 0.75, "2251799813685247.2"},
	} {
		if got := Real(math.Float64bits(c.x)); got != c.want {
			t.Errorf("Real(%b) = %q, want %q", c.x, got, c.want)
		}
	}
}

// Each number's text, held against all decimals that there are, with both signs.
func TestRealIsTheShortest(t *testing.T) {
	all := append(ties(), some(2000)...)
	for i, bits := range edges() {
		if i%4 == 0 { // an edge and its neighbours are five: by four each of them has its turn
			all = append(all, bits)
		}
	}
	for _, bits := range all {
		want := written(theShortest(bits))
		if got := Real(bits); got != want {
			t.Errorf("Real(%x) = %q, want %q", bits, got, want)
		}
		if got := Real(real.Neg(bits)); got != "-"+want {
			t.Errorf("Real(-%x) = %q, want -%s", bits, got, want)
		}
	}
}

// The same against the library's digits, for more numbers.
func TestRealAgainstTheLibrary(t *testing.T) {
	for _, bits := range append(edges(), some(30000)...) {
		s := strconv.FormatFloat(math.Float64frombits(bits), 'e', -1, 64)
		front, exp, _ := strings.Cut(s, "e")
		digits := strings.Replace(front, ".", "", 1)
		e, _ := strconv.Atoi(exp)
		if got, want := Real(bits), written(aDecimal{digits, e - len(digits) + 1}); got != want {
			t.Errorf("Real(%x) = %q, want %q", bits, got, want)
		}
	}
}

// A text of Real is never longer than what a reader takes, and has no exponent just where it may not have one.
func TestRealsForm(t *testing.T) {
	for _, bits := range append(edges(), some(3000)...) {
		s := Real(bits)
		x := math.Float64frombits(bits)
		if strings.Contains(s, "e") == (x >= 1e-6 && x < 1e21) || len(s) > 25 {
			t.Errorf("Real(%x) = %q", bits, s)
		}
		if !strings.Contains(s, "e") && !strings.Contains(s, ".") {
			t.Errorf("Real(%x) = %q, without a point", bits, s)
		}
	}
}

func TestRealsThereAndBack(t *testing.T) {
	for _, bits := range append(append(edges(), some(20000)...), 0, infinity) {
		for _, x := range []uint64{bits, bits | 1<<63} {
			if got, err := ParseReal(Real(x)); got != x || err != api.OK {
				t.Errorf("%x is written as %q and read as %x, %v", x, Real(x), got, err)
			}
		}
	}
	for _, x := range []uint64{oneNaN, 0xFFF0000000000001, 0x7FFFFFFFFFFFFFFF} {
		if got, err := ParseReal(Real(x)); got != oneNaN || err != api.OK {
			t.Errorf("NaN %x is read as %x, %v", x, got, err)
		}
	}
}

// A number is worked out to just 18 digits, at the powers of 2 and of 10 too: with fewer the nearer of two decimals would not be found.
func TestWorkedOutToAllDigits(t *testing.T) {
	for _, bits := range append(edges(), some(3000)...) {
		if s := spanOf(bits, order10(parts(bits))-fine+1); s.whole < 1e17 || s.whole >= 1e18 {
			t.Errorf("%x is worked out as %d", bits, s.whole)
		}
	}
}
