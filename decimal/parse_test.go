package decimal

import (
	"math"
	"math/big"
	"math/rand"
	"strconv"
	"strings"
	"testing"

	"portage/api"
)

func wantReal(t *testing.T, s string, bits uint64) {
	t.Helper()
	if got, err := ParseReal(s); got != bits || err != api.OK {
		t.Errorf("ParseReal(%.60q) = %x, %v; want %x", s, got, err, bits)
	}
}

func wantRealFault(t *testing.T, s string, e api.Errno) {
	t.Helper()
	if got, err := ParseReal(s); got != 0 || err != e {
		t.Errorf("ParseReal(%.60q) = %x, %v; want 0, %v", s, got, err, e)
	}
}

func TestParseReal(t *testing.T) {
	minusZero := math.Copysign(0, -1)
	for s, x := range map[string]float64{
		"5.": 5, ".5": 0.5, "-.5E+1": -5, "+1e0": 1, "1E5": 1e5, "1e-0009": 1e-9, "1e+0009": 1e9, "1e00": 1, "0.5e1": 5, "00012.500": 12.5, "+7": 7, "-7": -7,
		"0": 0, "-0": minusZero, "+0": 0, "-0.0": minusZero, ".0": 0, "0.": 0, "-.0e-9999": minusZero, "0e9999": 0, "-0e9999": minusZero, "000.000e0000": 0,
		"1e309": math.Inf(1), "-1e309": math.Inf(-1), "1e999": math.Inf(1), "1e9999": math.Inf(1), "1e308": 1e308, "-1e-400": minusZero, "-1e-999": minusZero, "1e-9999": 0, "1e-324": 0, "3e-324": 5e-324,
		"inf": math.Inf(1), "+inf": math.Inf(1), "-inf": math.Inf(-1),
		"9007199254740993": 1 << 53, "9007199254740993.0001": 1<<53 + 2, "9007199254740992.9999": 1 << 53, "9007199254740995": 1<<53 + 4, "9007199254740994.9999": 1<<53 + 2,
		"2.4703282292062327e-324": 0, "2.4703282292062328e-324": 5e-324, "1.7976931348623158e308": math.MaxFloat64, "1.7976931348623159e308": math.Inf(1),
		"2.2250738585072011e-308": 0x0.fffffffffffffp-1022, "2.2250738585072012e-308": 0x1p-1022, "100000000000000000000000": 1e23,
	} {
		wantReal(t, s, math.Float64bits(x))
	}
	wantReal(t, "nan", oneNaN)
}

func TestParseRealFaults(t *testing.T) {
	for _, s := range []string{
		"", "-", "+", ".", "-.", "+.", "e", "e1", ".e1", "-e1", "E", "1e", "1E", "1e+", "1e-", "1e--1", "1e+-1", "1e+12345", "1e12345", "1e00001", "1e-00000", "1e1.5", "1e1e1", "1e1E1", "1e.", "1e1.", "1ee1",
		"1.2.3", "..", "1..", "..1", ".1.", "--1", "+-1", "-+1", "++1", "1-", "1+1", "1.-1",
		"-nan", "+nan", "NaN", "NAN", "nan ", " nan", "nan0", "nane1", "na", "INF", "Inf", "iNF", "infinity", "in", "inf ", "inf0", "infe1", "--inf", "+-inf", "inf.", "-infinity",
		"1_0", "0x1", "0x1p3", "1p3", "0b1", "1d1", "1f", " 1", "1 ", "1 e1", "1e 1", "1,5", "\x00", "1\x00", "\xff", "1\xff", "1e\xff", "\u0663", "\uff15", "1e\uff15", "\u22125", "1\u00b75",
	} {
		wantRealFault(t, s, api.ErrText)
	}
}

// Every byte that no rule names is a fault at every place of a numeral.
func TestParseRealBytes(t *testing.T) {
	for b := range 256 {
		one := string([]byte{byte(b)})
		if strings.Contains("0123456789", one) {
			continue
		}
		if one != "." {
			wantRealFault(t, one, api.ErrText)
			if !strings.Contains("eE", one) {
				wantRealFault(t, "1"+one+"2", api.ErrText)
			}
			if !strings.Contains("+-", one) {
				wantRealFault(t, one+"2", api.ErrText)
				wantRealFault(t, "1e"+one+"2", api.ErrText)
			}
			wantRealFault(t, "1"+one, api.ErrText)
		}
		wantRealFault(t, "1."+one, api.ErrText)
		wantRealFault(t, "1e1"+one, api.ErrText)
		wantRealFault(t, "1e1"+one+"2", api.ErrText)
		wantRealFault(t, "-"+one+"inf", api.ErrText)
		wantRealFault(t, "inf"+one, api.ErrText)
		wantRealFault(t, "nan"+one, api.ErrText)
		wantRealFault(t, one+"nan", api.ErrText)
	}
}

func TestParseRealsLength(t *testing.T) {
	one := math.Float64bits(1)
	wantReal(t, strings.Repeat("0", 799)+"1", one)
	wantReal(t, "1."+strings.Repeat("0", 798), one)
	wantReal(t, "0."+strings.Repeat("0", 792)+"1e+793", one)
	wantReal(t, "1"+strings.Repeat("0", 794)+"e-794", one)
	wantReal(t, "1"+strings.Repeat("0", 795)+"e795", infinity)
	wantReal(t, strings.Repeat("9", 800), infinity)
	wantReal(t, "."+strings.Repeat("0", 793)+"1e9999", infinity)
	wantReal(t, "1"+strings.Repeat("0", 792)+"e-9999", 0)
	wantReal(t, "."+strings.Repeat("9", 799), one)
	for _, s := range []string{strings.Repeat("0", 800) + "1", strings.Repeat("x", 801), "-" + strings.Repeat("1", 800), "nan" + strings.Repeat(" ", 798), strings.Repeat("1", 5000), "." + strings.Repeat("0", 800)} {
		wantRealFault(t, s, api.ErrMany)
	}
	for _, s := range []string{strings.Repeat("x", 800), strings.Repeat("1", 799) + "x", "x" + strings.Repeat("1", 799), strings.Repeat(" ", 800)} {
		wantRealFault(t, s, api.ErrText)
	}
}

// wantNearest holds what is read against the exact value of the numeral, with all signs.
func wantNearest(t *testing.T, s string) {
	t.Helper()
	got, err := ParseReal(s)
	v, ok := new(big.Rat).SetString(strings.TrimSuffix(s, "."))
	if !ok || len(s) > 800 {
		t.Fatalf("the test's own text %.60q is no numeral", s)
	}
	if err != api.OK || !isNearest(got, v) {
		t.Errorf("ParseReal(%.60q) = %x, %v: not the number nearest", s, got, err)
	}
	wantReal(t, "+"[:min(1, 800-len(s))]+s, got)
	if len(s) < 800 {
		wantReal(t, "-"+s, got|1<<63)
	}
}

// plain writes a value that has a finite decimal: all its digits, without an exponent.
func plain(v *big.Rat) string {
	n, _ := v.FloatPrec()
	return v.FloatString(n)
}

// squeezed writes a value with an exponent, so that no 0s stand ahead of its digits.
func squeezed(v *big.Rat) string {
	whole, behind, _ := strings.Cut(plain(v), ".")
	return strings.TrimLeft(whole+behind, "0") + "e" + strconv.Itoa(-len(behind))
}

// middles are places between two numbers, where reading goes from one to the other.
func middles() []uint64 {
	all := []uint64{0, 1, 2, 3, infinity - 1, infinity - 2, 1<<52 - 2, 1<<52 - 1, 1 << 52, 1<<52 + 1, 1<<53 - 1, 1 << 53}
	for _, x := range []float64{1, 2, 10, 0.1, 1e15, 1 << 53, 1e22, 1e23, 1e100, 1e-100, 1e300, 1e-300, 1e-308, 3e-310} {
		b := math.Float64bits(x)
		all = append(all, b-2, b-1, b, b+1)
	}
	for e := uint64(1); e < 2047; e += 41 {
		all = append(all, e<<52-1, e<<52, e<<52|0x5A5A5A5A5A5A5)
	}
	return all
}

// Just in the middle, and a very little beside it: only all digits tell which number is nearest.
func TestParseRealInTheMiddle(t *testing.T) {
	for _, bits := range middles() {
		s := squeezed(between(bits))
		front, exp, _ := strings.Cut(s, "e")
		q, _ := strconv.Atoi(exp)
		even := bits + bits&1
		wantNearest(t, s)
		wantReal(t, s, even)
		room := 800 - len(front) - 6
		above := front + strings.Repeat("0", room-1) + "1e" + strconv.Itoa(q-room)
		wantNearest(t, above)
		wantReal(t, above, bits+1)
		n, _ := new(big.Int).SetString(front, 10)
		n.Mul(n, new(big.Int).Exp(big.NewInt(10), big.NewInt(int64(room)), nil))
		under := n.Sub(n, big.NewInt(1)).String() + "e" + strconv.Itoa(q-room)
		wantNearest(t, under)
		wantReal(t, under, bits)
	}
}

// The numbers themselves, with all their digits.
func TestParseRealOfAllDigits(t *testing.T) {
	for _, bits := range append(edges(), middles()...) {
		if s := squeezed(exactly(bits)); bits > 0 && len(s) <= 800 {
			wantReal(t, s, bits)
		}
		if s := plain(exactly(bits)); len(s) <= 800 {
			wantReal(t, s, bits)
		}
	}
}

// someNumerals are numerals of all forms, the same at each run.
func someNumerals(n int) []string {
	r := rand.New(rand.NewSource(7))
	var all []string
	for range n {
		digits := make([]byte, r.Intn(30)+1)
		if r.Intn(20) == 0 {
			digits = make([]byte, r.Intn(700)+1)
		}
		for i := range digits {
			digits[i] = byte('0' + r.Intn(10))
		}
		s := string(digits)
		if at := r.Intn(2 * len(s)); at <= len(s) {
			s = s[:at] + "." + s[at:]
		}
		if r.Intn(3) > 0 {
			s += "e" + strconv.Itoa(r.Intn(720)-360)
		}
		all = append(all, s)
	}
	return all
}

func TestParseRealIsTheNearest(t *testing.T) {
	for _, s := range someNumerals(3000) {
		wantNearest(t, strings.Replace(s, ".e", "e", 1))
	}
	for e := -345; e <= 312; e++ {
		for _, front := range []string{"1", "2.47", "4.94", "9.99", "17976931348623157", "0.1"} {
			wantNearest(t, front+"e"+strconv.Itoa(e))
		}
	}
}

func TestParseRealAgainstTheLibrary(t *testing.T) {
	for _, s := range someNumerals(20000) {
		x, _ := strconv.ParseFloat(s, 64)
		wantReal(t, s, math.Float64bits(x))
		wantReal(t, strings.ToUpper(s), math.Float64bits(x))
	}
}
