package ops

import (
	"math"
	"math/rand"
	"slices"
	"testing"

	"portage/api"
	"portage/heap"
	"portage/intern"
)

// edges are whole numbers at which something turns.
func edges() []int64 {
	l := []int64{0, 3, -3, 5, -5, 7, -7, 10, 100, 200, -200, 1000003, 0x5555555555555555, -0x5555555555555556}
	for _, k := range []uint{0, 1, 6, 7, 8, 14, 15, 16, 26, 31, 32, 52, 53, 54, 62, 63} {
		for d := int64(-1); d <= 1; d++ {
			l = append(l, 1<<k+d, -(1<<k)+d)
		}
	}
	for n := int64(60); n < 70; n++ {
		l = append(l, n, -n)
	}
	slices.Sort(l)
	return slices.Compact(l)
}

// reals are real numbers at which something turns, NaNs of other bits among them.
func reals() []api.Value {
	var l []api.Value
	for _, x := range []float64{0, 0.1, 0.5, 1, 1.5, 2, 2.5, 3, 1e-7, 1e21, 1 << 24, 1<<24 + 1, 1 << 52, 1<<52 + 0.5, 1 << 53, 1 << 62, 1 << 63, 1 << 64, 3.4e38, 3.5e38, 1e-46, 5e-324, 2.2250738585072014e-308, math.MaxFloat64, math.Inf(1)} {
		l = append(l, float(x), float(-x), float(math.Nextafter(x, 0)))
	}
	return append(l, float(math.Copysign(0, -1)), bits(oneNaN), bits(0xfff8000000000000), bits(0x7ff0000000000001), bits(math.MaxUint64))
}

// numbers are whole ones and reals.
func numbers() []api.Value {
	l := reals()
	for _, n := range edges() {
		l = append(l, whole(n))
	}
	return l
}

// twos and ones are the operations on two numbers, and on one.
func twos() []int {
	return []int{api.OpAdd, api.OpSub, api.OpMul, api.OpDiv, api.OpRem, api.OpAnd, api.OpOr, api.OpXor, api.OpBic, api.OpShl, api.OpShr}
}

func ones() []api.Instr {
	return []api.Instr{op(api.OpNeg), op(api.OpNot), op(api.OpFloor), op(api.OpSqrt), op(api.OpSingle), opA(api.OpExt, 8), opA(api.OpExt, 16), opA(api.OpExt, 32)}
}

// nowhere is a world without anything.
func nowhere() *World {
	return &World{Heap: heap.New(0, 0), Texts: intern.New[string]()}
}

// reckoned holds an operation on numbers against the model's.
func reckoned(t *testing.T, w *World, i api.Instr, args ...api.Value) {
	t.Helper()
	v, trap := modelNumbers(i, args)
	if got := told(Apply(w, i, args)); got != told(v, trap, true) {
		t.Fatalf("%v of %v: %s, not %s", i, args, got, told(v, trap, true))
	}
}

// The tables of arithmetic and of bits, of all pairs of numbers at which something turns.
func TestNumbers(t *testing.T) {
	w := nowhere()
	for _, a := range numbers() {
		for _, i := range ones() {
			reckoned(t, w, i, a)
		}
		for _, b := range numbers() {
			for _, n := range twos() {
				reckoned(t, w, op(n), a, b)
			}
		}
	}
}

// scattered is a whole number of some size.
func scattered(r *rand.Rand) int64 { return int64(r.Uint64()) >> r.Intn(64) }

// The same of numbers from everywhere.
func TestScatteredNumbers(t *testing.T) {
	r, w := rand.New(rand.NewSource(1)), nowhere()
	for range 4000 {
		a, b := whole(scattered(r)), whole(scattered(r))
		if r.Intn(3) == 0 {
			a = bits(r.Uint64())
		}
		if r.Intn(3) == 0 {
			b = bits(r.Uint64())
		}
		if r.Intn(3) == 0 {
			b = whole(int64(r.Intn(70)) - 3)
		}
		for _, i := range ones() {
			reckoned(t, w, i, a)
		}
		for _, n := range twos() {
			reckoned(t, w, op(n), a, b)
		}
	}
}

// Comparisons of all pairs of numbers.
func TestComparedNumbers(t *testing.T) {
	m := &model{}
	w := m.world(t)
	for _, a := range numbers() {
		for _, b := range numbers() {
			for _, n := range []int{api.OpEq, api.OpNe, api.OpLt, api.OpLe} {
				v, trap, _ := m.do(op(n), row(a, b))
				if got := told(Apply(w, op(n), row(a, b))); got != told(v, trap, true) {
					t.Fatalf("%d of %v and %v: %s", n, a, b, got)
				}
			}
		}
	}
}

// Some answers, written down.
func TestSomeAnswers(t *testing.T) {
	for _, c := range []struct {
		i    api.Instr
		args []api.Value
		want api.Value
	}{
		{op(api.OpAdd), row(whole(minInt), whole(-1)), whole(maxInt)},
		{op(api.OpSub), row(whole(minInt), whole(1)), whole(maxInt)},
		{op(api.OpMul), row(whole(minInt), whole(-1)), whole(minInt)},
		{op(api.OpNeg), row(whole(minInt)), whole(minInt)},
		{op(api.OpDiv), row(whole(minInt), whole(-1)), whole(minInt)},
		{op(api.OpRem), row(whole(minInt), whole(-1)), whole(0)},
		{op(api.OpRem), row(whole(7), whole(-3)), whole(1)},
		{op(api.OpDiv), row(whole(7), float(2)), float(3.5)},
		{op(api.OpDiv), row(whole(0), float(0)), bits(oneNaN)},
		{op(api.OpDiv), row(whole(-1), float(0)), float(math.Inf(-1))},
		{op(api.OpMul), row(whole(0), float(-1)), float(math.Copysign(0, -1))},
		{op(api.OpAdd), row(whole(1<<53+1), float(0)), float(1 << 53)},
		{op(api.OpShl), row(whole(3), whole(63)), whole(minInt)},
		{op(api.OpShl), row(whole(-1), whole(maxInt)), whole(0)},
		{op(api.OpShr), row(whole(minInt), whole(63)), whole(-1)},
		{op(api.OpShr), row(whole(maxInt), whole(64)), whole(0)},
		{op(api.OpShr), row(whole(-8), whole(1<<32)), whole(-1)},
		{opA(api.OpExt, 8), row(whole(127)), whole(127)},
		{opA(api.OpExt, 8), row(whole(128)), whole(-128)},
		{opA(api.OpExt, 16), row(whole(0x18000)), whole(-0x8000)},
		{opA(api.OpExt, 32), row(whole(maxInt)), whole(-1)},
		{op(api.OpFloor), row(whole(maxInt)), float(1 << 63)},
		{op(api.OpSqrt), row(whole(-1)), bits(oneNaN)},
		{op(api.OpSingle), row(whole(1<<24 + 1)), float(1 << 24)},
		{op(api.OpNeg), row(bits(0xfff8000000000000)), bits(oneNaN)},
		{op(api.OpToReal), row(bits(0xfff8000000000000)), bits(0xfff8000000000000)},
		{op(api.OpToReal), row(whole(-1)), float(-1)},
		{op(api.OpToInt), row(float(-0.9)), whole(0)},
		{op(api.OpToInt), row(truth(9)), whole(1)},
		{op(api.OpEq), row(whole(1<<53+1), float(1<<53)), truth(1)},
		{op(api.OpEq), row(whole(1<<53+1), whole(1<<53)), truth(0)},
		{op(api.OpEq), row(float(0), float(math.Copysign(0, -1))), truth(1)},
		{op(api.OpEq), row(truth(1), truth(2)), truth(0)},
		{op(api.OpEq), row(named(77, 3), named(77, 3)), truth(1)},
		{op(api.OpLe), row(bits(oneNaN), whole(1)), truth(0)},
		{op(api.OpLe), row(whole(1<<53+1), float(1<<53)), truth(1)},
		{op(api.OpLt), row(whole(1<<53), whole(1<<53+1)), truth(1)},
	} {
		if got := told(Apply(nowhere(), c.i, c.args)); got != told(c.want, 0, true) {
			t.Errorf("%v of %v: %s, not %v", c.i, c.args, got, c.want)
		}
	}
}

// hasWhole, by the words of P13.3.
func hasWhole(n, kind int) bool {
	switch kind {
	case api.Int:
		return slices.Contains([]int{api.OpAdd, api.OpSub, api.OpMul, api.OpAnd, api.OpOr, api.OpXor, api.OpBic, api.OpLt, api.OpLe, api.OpNeg, api.OpNot}, n)
	case api.Real:
		return slices.Contains([]int{api.OpAdd, api.OpSub, api.OpMul, api.OpDiv, api.OpLt, api.OpLe, api.OpNeg, api.OpSqrt, api.OpFloor, api.OpSingle}, n)
	}
	return false
}

// isOne tells whether an operation that Whole has takes one value.
func isOne(n int) bool {
	return slices.Contains([]int{api.OpNeg, api.OpNot, api.OpSqrt, api.OpFloor, api.OpSingle}, n)
}

// P13.3: of every operation, kind and number of values, like and unlike kinds.
func TestWhole(t *testing.T) {
	var lists [][]api.Value
	some := row(whole(0), whole(-7), whole(minInt), float(0), float(2.5), bits(oneNaN), bits(0xfff8000000000000), truth(1), api.Value{}, text(0), named(-1, 0))
	for n := range 4 {
		lists = append(lists, rows(some, n)...)
	}
	w := nowhere()
	for n := -3; n < 72; n++ {
		for kind := -1; kind < 12; kind++ {
			for _, args := range lists {
				has := hasWhole(n, kind) && (len(args) == 2 || len(args) == 1) && (len(args) == 1) == isOne(n)
				for _, v := range args {
					has = has && v.Kind == kind
				}
				v, ok := Whole(n, kind, args)
				if ok != has || !ok && v != (api.Value{}) {
					t.Fatalf("Whole(%d, %d, %v) = %v, %v", n, kind, args, v, ok)
				}
				if got := told(Apply(w, op(n), args)); ok && got != told(v, 0, true) {
					t.Fatalf("Whole(%d, %d, %v) = %v, and Apply's is %s", n, kind, args, v, got)
				}
			}
		}
	}
}

// P13.3: numbers of all sizes.
func TestWholeOfNumbers(t *testing.T) {
	w := nowhere()
	for n := range api.Ops {
		for _, kind := range []int{api.Int, api.Real} {
			for _, a := range numbers() {
				for _, b := range numbers() {
					args := row(a, b)
					if isOne(n) {
						args = row(a)
					}
					v, ok := Whole(n, kind, args)
					if ok != (hasWhole(n, kind) && a.Kind == kind && (b.Kind == kind || isOne(n))) {
						t.Fatalf("Whole(%d, %d, %v) = %v, %v", n, kind, args, v, ok)
					}
					if ok && told(Apply(w, op(n), args)) != told(v, 0, true) {
						t.Fatalf("Whole(%d, %d, %v) = %v", n, kind, args, v)
					}
					if isOne(n) {
						break
					}
				}
			}
		}
	}
	for _, n := range []int{minInt, maxInt, 1<<32 + api.OpAdd} {
		for _, kind := range []int{api.Int, api.Real, minInt, maxInt} {
			if v, ok := Whole(n, kind, row(whole(1), whole(2))); ok || v != (api.Value{}) {
				t.Errorf("Whole(%d, %d)", n, kind)
			}
		}
	}
}
