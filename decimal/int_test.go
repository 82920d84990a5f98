package decimal

import (
	"math"
	"math/big"
	"math/rand"
	"strings"
	"testing"

	"portage/api"
)

// someInts are whole numbers of all sizes, the edges of each power of 2 and of 10 among them.
func someInts() []int64 {
	all := []int64{0, math.MinInt64, math.MinInt64 + 1, math.MaxInt64, math.MaxInt64 - 1}
	for k := uint(0); k < 63; k++ {
		n := int64(1) << k
		all = append(all, n-1, n, n+1, 1-n, -n, -n-1)
	}
	for n := int64(1); n <= 1e18; n *= 10 {
		all = append(all, n-1, n, n+1, 1-n, -n, -n-1)
		if n == 1e18 {
			break
		}
	}
	r := rand.New(rand.NewSource(1))
	for range 2000 {
		all = append(all, int64(r.Uint64())>>uint(r.Intn(64)))
	}
	return all
}

func TestInt(t *testing.T) {
	for n, want := range map[int64]string{0: "0", -7: "-7", 7: "7", 10: "10", -100: "-100", math.MaxInt64: "9223372036854775807", math.MinInt64: "-9223372036854775808"} {
		if got := Int(n); got != want {
			t.Errorf("Int(%d) = %q", n, got)
		}
	}
	for _, n := range someInts() {
		if got := Int(n); got != big.NewInt(n).String() {
			t.Errorf("Int(%d) = %q", n, got)
		}
	}
}

func wantInt(t *testing.T, s string, n int64, e api.Errno) {
	t.Helper()
	if got, err := ParseInt(s); got != n || err != e {
		t.Errorf("ParseInt(%.60q) = %d, %v; want %d, %v", s, got, err, n, e)
	}
}

func TestParseInt(t *testing.T) {
	zeros := strings.Repeat("0", 5000)
	wantInt(t, "+007", 7, api.OK)
	wantInt(t, "-007", -7, api.OK)
	wantInt(t, "0", 0, api.OK)
	wantInt(t, "-0", 0, api.OK)
	wantInt(t, "+0", 0, api.OK)
	wantInt(t, zeros, 0, api.OK)
	wantInt(t, "-"+zeros+"12", -12, api.OK)
	wantInt(t, zeros+"9223372036854775807", math.MaxInt64, api.OK)
	wantInt(t, "+9223372036854775807", math.MaxInt64, api.OK)
	wantInt(t, "-9223372036854775807", -math.MaxInt64, api.OK)
	wantInt(t, "-9223372036854775808", math.MinInt64, api.OK)
	wantInt(t, "-"+zeros+"9223372036854775808", math.MinInt64, api.OK)
}

func TestParseIntAboveTheEnds(t *testing.T) {
	for _, s := range []string{"9223372036854775808", "+9223372036854775808", "-9223372036854775809", "9223372036854775809", "9223372036854775810", "9223372036854775817", "9223372036854775818", "-9223372036854775810", "-9223372036854775818", "9223372036854775900", "10000000000000000000", "18446744073709551615", "18446744073709551616", "-18446744073709551616", "18446744073709551623", "-18446744073709551623", "92233720368547758080", "99999999999999999999999", "00099999999999999999999", strings.Repeat("9", 5000), "-" + strings.Repeat("1", 5000), "1" + strings.Repeat("0", 64)} {
		wantInt(t, s, 0, api.ErrMany)
	}
}

func TestParseIntFaults(t *testing.T) {
	for _, s := range []string{"", "-", "+", "--1", "++1", "+-1", "-+1", "1-", "1+", " 1", "1 ", "- 1", "1 2", "0x1", "1.0", "1.", ".", "1e1", "1_0", "nan", "inf", "\xff", "1\xff", "\xff1", "\x00", "1\x00", "\u0661", "\uff11", "1\u00b2", "\u22121", "99999999999999999999999x", "x99999999999999999999999", "-99999999999999999999999-"} {
		wantInt(t, s, 0, api.ErrText)
	}
	for b := range 256 {
		if b >= '0' && b <= '9' {
			continue
		}
		one := string([]byte{byte(b)})
		wantInt(t, one, 0, api.ErrText)
		wantInt(t, "1"+one, 0, api.ErrText)
		wantInt(t, "1"+one+"2", 0, api.ErrText)
		wantInt(t, "-"+one+"2", 0, api.ErrText)
		if b != '-' && b != '+' {
			wantInt(t, one+"2", 0, api.ErrText)
		}
	}
}

// Where both errors apply the text's fault comes first, wherever it stands.
func TestParseIntFaultBehindTooMany(t *testing.T) {
	nines := strings.Repeat("9", 30)
	for at := range len(nines) + 1 {
		wantInt(t, nines[:at]+"x"+nines[at:], 0, api.ErrText)
	}
}

func TestIntsThereAndBack(t *testing.T) {
	for _, n := range someInts() {
		s := Int(n)
		wantInt(t, s, n, api.OK)
		if n < 0 {
			wantInt(t, "-000"+s[1:], n, api.OK)
			continue
		}
		for _, ahead := range []string{"+", "0", "+0", "00000000000000000000"} {
			wantInt(t, ahead+s, n, api.OK)
		}
	}
}

// What is read is written again without a "+", without 0s that are not needed, and 0 without "-".
func TestIntsBackAndThere(t *testing.T) {
	for s, want := range map[string]string{"+007": "7", "-0": "0", "-00": "0", "+0": "0", "-010": "-10", "0000": "0", "+1": "1"} {
		n, err := ParseInt(s)
		if got := Int(n); err != api.OK || got != want {
			t.Errorf("%q is read, and written as %q (%v)", s, got, err)
		}
	}
}
