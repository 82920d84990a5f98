package decimal

import (
	"math"
	"strconv"
	"strings"
	"testing"

	"portage/api"
	"portage/real"
)

// counted is how many digits of a text count: none of an exponent, and no 0s ahead and behind.
func counted(s string) int {
	front, _, _ := strings.Cut(strings.ToLower(s), "e")
	front = strings.TrimLeft(strings.Replace(front, ".", "", 1), "+-0")
	return len(strings.TrimRight(front, "0"))
}

// No text of fewer digits is read as the number.
func TestNoTextIsShorter(t *testing.T) {
	for _, s := range someNumerals(5000) {
		x, err := ParseReal(s)
		if err != api.OK {
			t.Fatalf("ParseReal(%.60q): %v", s, err)
		}
		if c := real.Class(x); (c == real.Tiny || c == real.Normal) && counted(s) < counted(Real(x)) {
			t.Errorf("%q has fewer digits than %q", s, Real(x))
		}
	}
	for _, x := range append(edges()[:300], some(300)...) {
		shorter(t, x, Real(x))
	}
}

// shorter tries what is written with a digit less, one up and one down.
func shorter(t *testing.T, x uint64, text string) {
	t.Helper()
	d := theShortest(x)
	if len(d.digits) == 1 {
		return
	}
	head, _ := strconv.ParseInt(d.digits[:len(d.digits)-1], 10, 64)
	for _, n := range []int64{head - 1, head, head + 1} {
		s := Int(n) + "e" + strconv.Itoa(d.q+1)
		if got, err := ParseReal(s); got == x || err != api.OK {
			t.Errorf("%q is read as %q is (%v)", s, text, err)
		}
	}
}

func TestIntsAreReadAsReals(t *testing.T) {
	for _, n := range someInts() {
		wantReal(t, Int(n), real.FromInt(n))
	}
}

// unsigned are texts without a sign: numerals, what has a name, and what is no number.
func unsigned() []string {
	return append(someNumerals(1000), "0", "0.0", ".0e1", "inf", "1e999", "1e-999", "", ".", "e1", "1e", "1e12345", "x", "in", "1..", "NAN", "\xff", strings.Repeat("1", 799), strings.Repeat("x", 799), "."+strings.Repeat("0", 798))
}

func TestAMinusAhead(t *testing.T) {
	for _, s := range unsigned() {
		x, err := ParseReal(s)
		y, errMinus := ParseReal("-" + s)
		z, errPlus := ParseReal("+" + s)
		if err != errMinus || err != errPlus {
			t.Errorf("%.60q: %v; with a - ahead %v, with a + %v", s, err, errMinus, errPlus)
		}
		if err == api.OK && (y != real.Neg(x) || z != x) {
			t.Errorf("%.60q is %x; with a - ahead %x, with a + %x", s, x, y, z)
		}
		if err != api.OK && (x != 0 || y != 0 || z != 0) {
			t.Errorf("%.60q is a fault, and still %x, %x, %x", s, x, y, z)
		}
	}
	wantRealFault(t, "-nan", api.ErrText)
	wantRealFault(t, "+nan", api.ErrText)
}

// up is the front with its last digits counted up by one, in the same number of bytes.
func up(front string) (string, bool) {
	b := []byte(front)
	for i := len(b) - 1; i >= 0; i-- {
		if b[i] == '.' {
			continue
		}
		if b[i] < '9' {
			b[i]++
			return string(b), true
		}
		b[i] = '0'
	}
	return "", false
}

func TestReadingKeepsOrder(t *testing.T) {
	fronts := []string{"9007199254740990", "0.1999999999999999999", "99999999999999990.", "2251799813685247.90", "0." + strings.Repeat("0", 323) + "19", strings.Repeat("0", 20) + "1", "17976931348623157" + strings.Repeat("9", 292)}
	for _, s := range someNumerals(40) {
		front, _, _ := strings.Cut(s, "e")
		fronts = append(fronts, front)
	}
	for _, s := range fronts {
		for range 50 {
			greater, ok := up(s)
			if !ok {
				break
			}
			x, _ := ParseReal(s)
			y, _ := ParseReal(greater)
			if real.Less(y, x) || x > y {
				t.Errorf("%q is read as %x, %q as %x", s, x, greater, y)
			}
			s = greater
		}
	}
}

// A 0 more ahead of the front changes nothing, and neither does one behind a front with a point; behind one without it is as an exponent greater by 1.
func TestZerosMore(t *testing.T) {
	for _, s := range append(someNumerals(2000), "0", "0.", ".0", "1e9998", "1e-9999", "5e-325", "5e-324", "1e308", "9e307") {
		if len(s) >= 790 {
			continue
		}
		front, exp, _ := strings.Cut(s, "e")
		e, _ := strconv.Atoi(exp)
		x, _ := ParseReal(s)
		wantReal(t, "0"+s, x)
		behind := front + "0" + s[len(front):]
		if strings.Contains(front, ".") {
			wantReal(t, behind, x)
			continue
		}
		greater, _ := ParseReal(front + "e" + strconv.Itoa(e+1))
		wantReal(t, behind, greater)
	}
}

// Two calls with the same text or number answer the same: nothing is kept between them.
func TestNothingIsKept(t *testing.T) {
	for range 2 {
		wantRealFault(t, "1e", api.ErrText)
		wantReal(t, "0.1", math.Float64bits(0.1))
		wantReal(t, "-inf", 1<<63|infinity)
		if got := Real(math.Float64bits(0.1)); got != "0.1" {
			t.Errorf("Real of a tenth is %q", got)
		}
	}
}
