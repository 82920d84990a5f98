package fold

import (
	"math"
	"slices"
	"testing"

	"portage/api"
	"portage/sample"
)

func ins(op int, a ...int64) api.Instr {
	i := api.Instr{Op: op}
	for _, n := range a {
		i.A = n
	}
	return i
}

// The chapter's examples, whole.
func TestExamples(t *testing.T) {
	p := given(t)
	k0, k1, f1, f2 := at(api.AtConst, 0), at(api.AtConst, 1), at(api.AtFunc, 1), at(api.AtFunc, 2)
	size := plain(ins(api.OpLen), 2, 1, reg(0))
	div := plain(ins(api.OpDiv), 2, 1, whole(3), whole(0))
	eq := plain(ins(api.OpEq), 2, 1, k1, null())
	moved := func(x api.RIns, dst int, o api.Opnd) api.RIns { return withPC(move(dst, o), x.PC) }
	add, mul := plain(ins(api.OpAdd), 2, 2, whole(3), whole(4)), plain(ins(api.OpMul), 2, 1, whole(3), k0)
	odd := pure(api.OpAdd, api.Int, 1, whole(2), k0)
	for k, x := range []struct {
		in, want []api.RIns
		need     int
	}{
		{[]api.RIns{add, jump()}, []api.RIns{moved(add, 2, whole(7)), jump()}, 3},
		{[]api.RIns{div, jump()}, []api.RIns{div, jump()}, 1},
		{[]api.RIns{mul, jump()}, []api.RIns{moved(mul, 2, bits(oneHalf)), jump()}, 2},
		{[]api.RIns{eq, jump()}, []api.RIns{eq, jump()}, 1},
		{[]api.RIns{eq, guard(api.Bool, 4, reg(2)), jump()}, []api.RIns{withNeed(eq, 5), jump()}, 1},
		{[]api.RIns{size, guard(api.Int, 0, reg(2)), branch(api.OpJz, reg(2))}, []api.RIns{size, withPC(withN(jump(), 0), 37)}, 1},
		{[]api.RIns{guard(api.Real, 1, whole(7)), add, jump()}, []api.RIns{withPC(leave(), 34)}, 1},
		{[]api.RIns{callee(2, 1, f2), jump()}, []api.RIns{callee(2, 1, f2), jump()}, 1},
		{[]api.RIns{callee(1, 1, f2), jump()}, []api.RIns{withPC(leave(), 35)}, 1},
		{[]api.RIns{callee(2, 1, f1), add, jump()}, []api.RIns{withPC(leave(), 35)}, 1},
		{[]api.RIns{odd, jump()}, []api.RIns{moved(odd, 1, null()), jump()}, 1},
	} {
		got, need := became(t, p, x.in...)
		if !slices.EqualFunc(got, x.want, sample.SameIns) || need != x.need {
			t.Errorf("row %d: %+v, need %d", k, got, need)
		}
	}
	c := written(size, guard(api.Int, 0, reg(2)), branch(api.OpJz, reg(2)))
	if next := Run(p, c).Blocks[0].Next; !slices.Equal(next, []int{2}) {
		t.Error("an int is always true, but it goes on with", next)
	}
}

func withPC(x api.RIns, pc int) api.RIns { x.PC = pc; return x }

func withNeed(x api.RIns, need int) api.RIns { x.Need = need; return x }

func withN(x api.RIns, n int64) api.RIns { x.N = n; return x }

// P23.1: what operations give of known values, of all kinds that there are, and at the edges of numbers.
func TestWorkedOut(t *testing.T) {
	p := given(t)
	k0, f1, f2 := at(api.AtConst, 0), at(api.AtFunc, 1), at(api.AtFunc, 2)
	for _, x := range []struct {
		i    api.Instr
		args []api.Opnd
		want api.Opnd
	}{
		{ins(api.OpAdd), opnds(whole(math.MaxInt64), whole(1)), whole(math.MinInt64)},
		{ins(api.OpAdd), opnds(whole(1), k0), bits(oneHalf)},
		{ins(api.OpAdd), opnds(bits(half), bits(half)), bits(one)},
		{ins(api.OpSub), opnds(whole(3), whole(5)), whole(-2)},
		{ins(api.OpSub), opnds(bits(infinite), bits(infinite)), bits(nan)},
		{ins(api.OpMul), opnds(whole(-3), whole(5)), whole(-15)},
		{ins(api.OpDiv), opnds(whole(-7), whole(2)), whole(-3)},
		{ins(api.OpDiv), opnds(whole(math.MinInt64), whole(-1)), whole(math.MinInt64)},
		{ins(api.OpDiv), opnds(bits(one), whole(0)), bits(infinite)},
		{ins(api.OpRem), opnds(whole(-7), whole(2)), whole(-1)},
		{ins(api.OpNeg), opnds(whole(math.MinInt64)), whole(math.MinInt64)},
		{ins(api.OpNeg), opnds(bits(0)), bits(minus0)},
		{ins(api.OpAnd), opnds(whole(6), whole(3)), whole(2)},
		{ins(api.OpOr), opnds(whole(6), whole(3)), whole(7)},
		{ins(api.OpXor), opnds(whole(6), whole(3)), whole(5)},
		{ins(api.OpBic), opnds(whole(6), whole(3)), whole(4)},
		{ins(api.OpNot), opnds(whole(0)), whole(-1)},
		{ins(api.OpShl), opnds(whole(1), whole(63)), whole(math.MinInt64)},
		{ins(api.OpShl), opnds(whole(1), whole(64)), whole(0)},
		{ins(api.OpShr), opnds(whole(-1), whole(100)), whole(-1)},
		{ins(api.OpExt, 8), opnds(whole(200)), whole(-56)},
		{ins(api.OpExt, 16), opnds(whole(200)), whole(200)},
		{ins(api.OpExt, 32), opnds(whole(1 << 31)), whole(math.MinInt32)},
		{ins(api.OpEq), opnds(whole(1), bits(one)), truth(1)},
		{ins(api.OpEq), opnds(bits(nan), bits(nan)), truth(0)},
		{ins(api.OpEq), opnds(whole(1), truth(1)), truth(0)},
		{ins(api.OpEq), opnds(f1, f1), truth(1)},
		{ins(api.OpEq), opnds(f1, f2), truth(0)},
		{ins(api.OpEq), opnds(f1, whole(1)), truth(0)},
		{ins(api.OpEq), opnds(null(), null()), truth(1)},
		{ins(api.OpNe), opnds(null(), truth(0)), truth(1)},
		{ins(api.OpNe), opnds(k0, bits(half)), truth(0)},
		{ins(api.OpLt), opnds(whole(1), k0), truth(0)},
		{ins(api.OpLe), opnds(whole(math.MinInt64), whole(math.MinInt64)), truth(1)},
		{ins(api.OpTest), opnds(null()), truth(0)},
		{ins(api.OpTest), opnds(whole(0)), truth(1)},
		{ins(api.OpTest), opnds(k0), truth(1)},
		{ins(api.OpFlip), opnds(truth(0)), truth(1)},
		{ins(api.OpFlip), opnds(f1), truth(0)},
		{ins(api.OpToInt), opnds(truth(1)), whole(1)},
		{ins(api.OpToInt), opnds(bits(oneHalf)), whole(1)},
		{ins(api.OpToReal), opnds(whole(2)), bits(two)},
		{ins(api.OpSingle), opnds(k0), bits(half)},
		{ins(api.OpFloor), opnds(bits(oneHalf)), bits(one)},
		{ins(api.OpSqrt), opnds(whole(-1)), bits(nan)},
	} {
		in := plain(x.i, 2, 3, x.args...)
		got, need := became(t, p, in, jump())
		if want := withPC(move(2, x.want), in.PC); !sample.SameIns(got[0], want) || need != 4 || got[1].Op != api.RJump {
			t.Errorf("%+v of %+v: %+v, need %d", x.i, x.args, got, need)
		}
	}
}

// P23.1: operations in an RPure, of any values or of one kind.
func TestPureWorkedOut(t *testing.T) {
	p := given(t)
	k0 := at(api.AtConst, 0)
	for _, x := range []struct {
		in   api.RIns
		want api.Opnd
	}{
		{pure(api.OpEq, 0, 3, whole(1), bits(one)), truth(1)},
		{pure(api.OpNe, 0, 3, null(), truth(0)), truth(1)},
		{pure(api.OpTest, 0, 3, truth(1)), truth(1)},
		{pure(api.OpFlip, 0, 3, k0), truth(0)},
		{pure(api.OpAdd, api.Int, 3, whole(math.MaxInt64), whole(1)), whole(math.MinInt64)},
		{pure(api.OpSub, api.Real, 3, k0, bits(half)), bits(0)},
		{pure(api.OpDiv, api.Real, 3, bits(one), bits(0)), bits(infinite)},
		{pure(api.OpLt, api.Int, 3, whole(1), whole(2)), truth(1)},
		{pure(api.OpLe, api.Real, 3, bits(nan), bits(nan)), truth(0)},
		{pure(api.OpNot, api.Int, 3, whole(-1)), whole(0)},
		{pure(api.OpSqrt, api.Real, 3, bits(minus0)), bits(minus0)},
		{pure(api.OpAdd, api.Int, 3, whole(2), k0), null()},
		{pure(api.OpAdd, api.Real, 3, whole(2), k0), null()},
		{pure(api.OpLt, api.Int, 3, null(), whole(2)), null()},
		{pure(api.OpNeg, api.Real, 3, at(api.AtFunc, 1)), null()},
	} {
		got, need := became(t, p, x.in, jump())
		if want := withPC(move(3, x.want), x.in.PC); !sample.SameIns(got[0], want) || need != 1 {
			t.Errorf("%+v: %+v, need %d", x.in, got, need)
		}
	}
}

// P23.1: what is worked out only as it runs: it traps, needs room, gives what no operand says or nothing, or one of its values isn't known.
func TestNotWorkedOut(t *testing.T) {
	p := given(t)
	k0, k1, f2 := at(api.AtConst, 0), at(api.AtConst, 1), at(api.AtFunc, 2)
	for name, in := range map[string]api.RIns{
		"divide":                  plain(ins(api.OpDiv), 2, 3, whole(3), whole(0)),
		"divide, rem":             plain(ins(api.OpRem), 2, 3, whole(3), whole(0)),
		"type":                    plain(ins(api.OpAdd), 2, 3, whole(3), null()),
		"type, of a truth":        plain(ins(api.OpNeg), 2, 3, truth(1)),
		"type, of a real":         plain(ins(api.OpAnd), 2, 3, whole(3), k0),
		"type, lt":                plain(ins(api.OpLt), 2, 3, whole(3), truth(1)),
		"type, toint":             plain(ins(api.OpToInt), 2, 3, null()),
		"range":                   plain(ins(api.OpShl), 2, 3, whole(3), whole(-1)),
		"range, toint":            plain(ins(api.OpToInt), 2, 3, bits(nan)),
		"get":                     plain(ins(api.OpGet), 2, 3, whole(3), whole(1)),
		"len":                     plain(ins(api.OpLen), 2, 3, f2),
		"getf":                    plain(ins(api.OpGetf, 1), 2, 3, null()),
		"hasf":                    plain(ins(api.OpHasf, 1), 2, 3, whole(1)),
		"keys":                    plain(ins(api.OpKeys), 2, 3, whole(1)),
		"bind of too many":        plain(ins(api.OpBind, 1), 2, 3, at(api.AtFunc, 0), null()),
		"bind":                    plain(ins(api.OpBind, 1), 2, 3, f2, null()),
		"bind of none":            plain(ins(api.OpBind, 0), 2, 3, f2),
		"an array":                plain(ins(api.OpArray, 0), 2, 3),
		"an array of two":         plain(ins(api.OpArray, 2), 2, 3, whole(1), null()),
		"a record":                plain(ins(api.OpRecord), 2, 3),
		"a channel":               plain(ins(api.OpChan, 2), 2, 3),
		"totext":                  plain(ins(api.OpToText), 2, 3, whole(1)),
		"kind":                    plain(ins(api.OpKind), 2, 3, null()),
		"read":                    plain(ins(api.OpRead), 2, 3),
		"print":                   plain(ins(api.OpPrint), -1, 3, whole(1)),
		"set":                     plain(ins(api.OpSet), -1, 3, null(), whole(1), whole(1)),
		"push":                    plain(ins(api.OpPush), -1, 3, null(), whole(1)),
		"setf":                    plain(ins(api.OpSetf, 1), -1, 3, null(), whole(1)),
		"delf":                    plain(ins(api.OpDelf, 1), -1, 3, null()),
		"shut":                    plain(ins(api.OpShut), -1, 3, null()),
		"eq of a text":            plain(ins(api.OpEq), 2, 3, k1, k1),
		"test of a text":          plain(ins(api.OpTest), 2, 3, k1),
		"cat of texts":            plain(ins(api.OpCat), 2, 3, k1, k1),
		"toint of a text":         plain(ins(api.OpToInt), 2, 3, k1),
		"len of a text":           plain(ins(api.OpLen), 2, 3, k1),
		"a register":              plain(ins(api.OpAdd), 2, 3, reg(1), whole(1)),
		"another register":        plain(ins(api.OpAdd), 2, 3, whole(1), reg(1)),
		"pure, of a register":     pure(api.OpEq, 0, 2, whole(1), reg(1)),
		"pure, of one and itself": pure(api.OpNe, 0, 2, reg(1), reg(1)),
		"pure, of a text":         pure(api.OpEq, 0, 2, k1, whole(1)),
		"pure, of texts":          pure(api.OpEq, 0, 2, k1, k1),
		"pure, of a text alone":   pure(api.OpTest, 0, 2, k1),
		"whole, of a register":    pure(api.OpAdd, api.Int, 2, reg(1), whole(1)),
		"whole, of a text":        pure(api.OpAdd, api.Int, 2, k1, whole(1)),
		"a move":                  move(2, whole(1)),
		"a move of a register":    move(2, reg(2)),
		"a point":                 point(3),
	} {
		got, need := became(t, p, in, jump())
		if len(got) != 2 || !sample.SameIns(got[0], in) || need != 1 {
			t.Errorf("%s: %+v, need %d", name, got, need)
		}
		// What is known of a register is its kind alone, also where it was moved there.
		if len(in.Args) == 2 && in.Args[0] == reg(1) {
			got, _ := became(t, p, move(1, whole(5)), in, jump())
			if !sample.SameIns(got[1], in) {
				t.Errorf("%s, moved there: %+v", name, got)
			}
		}
	}
}

// P23.1: the point that is just ahead pays for what is worked out or taken out; nobody for what stands behind a guard that fails.
func TestNeeds(t *testing.T) {
	p := given(t)
	add := plain(ins(api.OpAdd), 2, 4, whole(1), whole(2))
	size := plain(ins(api.OpLen), 3, 8, reg(0))
	say := plain(ins(api.OpPrint), -1, 2, reg(1))
	yes, no := guard(api.Int, 16, whole(1)), guard(api.Nil, 32, whole(1))
	maybe, call := guard(api.Int, 64, reg(5)), callee(1, 128, at(api.AtFunc, 1))
	for k, x := range []struct {
		list  []api.RIns
		needs []int // of the points of the answer
	}{
		{[]api.RIns{add, add, jump()}, []int{9}},
		{[]api.RIns{add, size, add, yes, jump()}, []int{5, 28}},
		{[]api.RIns{size, move(1, null()), pure(api.OpEq, 0, 1, reg(0), reg(1)), add, jump()}, []int{1, 12}},
		{[]api.RIns{say, yes, point(3), yes, jump()}, []int{1, 18, 19}},
		{[]api.RIns{maybe, yes, call, add, jump()}, []int{1, 80, 132}},
		{[]api.RIns{maybe, guard(api.Int, 7, reg(5)), jump()}, []int{1, 71}},
		{[]api.RIns{yes, no, add, size, jump()}, []int{17, 0}},
		{[]api.RIns{size, add, no, yes, add, jump()}, []int{1, 12, 0}},
		{[]api.RIns{call, yes, callee(1, 32, at(api.AtFunc, 2)), jump()}, []int{1, 144, 0}},
		{[]api.RIns{yes, add, leave()}, []int{21, 0}},
		{[]api.RIns{yes, branch(api.OpJz, whole(1))}, []int{17}},
		{[]api.RIns{withNeed(yes, 0), withNeed(add, 0), jump()}, []int{1}},
		{[]api.RIns{withNeed(yes, 2*api.MaxCode-1), jump()}, []int{2 * api.MaxCode}},
	} {
		got, need := became(t, p, x.list...)
		needs := []int{need}
		for _, i := range got {
			if i.Op == api.RPlain || i.Op == api.RGuard || i.Op == api.RCallee || i.Op == api.RPoint || i.Op == api.RLeave {
				needs = append(needs, i.Need)
			} else if i.Need != 0 || len(i.Exit) != 0 {
				t.Errorf("row %d: no point, but %+v", k, i)
			}
		}
		if !slices.Equal(needs, x.needs) {
			t.Errorf("row %d: %v", k, needs)
		}
	}
}

// operandsOfKinds are operands whose kinds are known by themselves.
func operandsOfKinds() map[api.Opnd]int {
	return map[api.Opnd]int{
		null(): api.Nil, truth(0): api.Bool, truth(1): api.Bool, whole(0): api.Int, whole(-9): api.Int, bits(0): api.Real, bits(nan): api.Real,
		at(api.AtConst, 0): api.Real, at(api.AtConst, 1): api.Text, at(api.AtFunc, 0): api.Func, at(api.AtFunc, 1): api.Func,
	}
}

// P23.1: each guard of what is known is taken out, or leaves; with it goes what stands behind it.
func TestGuards(t *testing.T) {
	p := given(t)
	behind := []api.RIns{move(1, reg(2)), plain(ins(api.OpLen), 3, 8, reg(0))}
	for o, kind := range operandsOfKinds() {
		for n := api.Nil; n <= api.Chan; n++ {
			for _, last := range []api.RIns{jump(), branch(api.OpJz, reg(1)), leave()} {
				x := guard(n, 2, o)
				x.Exit[0].Slots[3] = at(api.AtInt, 77)
				in := written(slices.Concat([]api.RIns{x}, behind, []api.RIns{last})...)
				b := obeys(t, p, in).Blocks[0]
				want := api.Block{Ins: []api.RIns{point(1), {Op: api.RLeave, Dst: -1, PC: x.PC, Exit: x.Exit}}}
				if n == kind {
					want = api.Block{Ins: slices.Concat([]api.RIns{point(3)}, behind, []api.RIns{last}), Next: in.Blocks[0].Next}
				}
				if !sample.SameBlock(b, want) {
					t.Errorf("%d of %+v: %+v", n, o, b)
				}
			}
		}
	}
	for n := api.Nil; n <= api.Chan; n++ {
		if got, need := became(t, p, guard(n, 2, reg(5)), jump()); !sample.SameIns(got[0], guard(n, 2, reg(5))) || need != 1 {
			t.Errorf("%d of a register: %+v", n, got)
		}
	}
}

// P23.1: each call of what is known not to be the function leaves; of the function itself, and of what may be it, nothing is told ahead.
func TestCallees(t *testing.T) {
	p := given(t)
	size := plain(ins(api.OpLen), 3, 8, reg(0))
	leaves := func(name string, fn int, o api.Opnd, ahead ...api.RIns) bool {
		x := callee(fn, 2, o)
		got, _ := became(t, p, slices.Concat(ahead, []api.RIns{x, size, branch(api.OpJz, reg(4))})...)
		if last := got[len(got)-1]; last.Op == api.RLeave {
			if !sample.SameIns(last, api.RIns{Op: api.RLeave, Dst: -1, PC: x.PC, Exit: x.Exit}) {
				t.Errorf("%s: %+v", name, last)
			}
			return true
		}
		if !sample.SameIns(got[len(got)-3], x) {
			t.Errorf("%s: %+v", name, got)
		}
		return false
	}
	for o, kind := range operandsOfKinds() {
		for fn := range 3 {
			if got := leaves("known", fn, o); got != (kind != api.Func || o.N != int64(fn)) {
				t.Errorf("%d of %+v: %v", fn, o, got)
			}
		}
	}
	for kind := api.Nil; kind <= api.Chan; kind++ {
		if got := leaves("a register", 1, reg(5), guard(kind, 0, reg(5))); got != (kind != api.Func) {
			t.Errorf("of a register of kind %d: %v", kind, got)
		}
	}
	if leaves("a register", 1, reg(5)) || leaves("moved there", 1, reg(5), move(5, at(api.AtFunc, 2))) || leaves("twice", 2, reg(5), callee(1, 0, reg(5))) {
		t.Error("of a register that may be the function")
	}
}

// P23.1: each branch of which the way is known becomes a jump there.
func TestBranches(t *testing.T) {
	p := given(t)
	goes := func(op int, o api.Opnd, ahead ...api.RIns) []int {
		x := branch(op, o)
		d := obeys(t, p, written(append(ahead, x)...))
		b := d.Blocks[0]
		last := b.Ins[len(b.Ins)-1]
		want := x
		if len(b.Next) == 1 {
			want = api.RIns{Op: api.RJump, Dst: -1, PC: x.PC}
		}
		if !sample.SameIns(last, want) || len(b.Ins) != len(ahead)+2 {
			t.Errorf("%+v became %+v", x, b)
		}
		return b.Next
	}
	isTrue := map[int]bool{api.OpJnz: true, api.OpJz: false}
	for op, when := range isTrue {
		way := func(truth bool) []int {
			if truth == when {
				return []int{1}
			}
			return []int{2}
		}
		for o := range operandsOfKinds() {
			if got := goes(op, o); !slices.Equal(got, way(o != null() && o != truth(0))) {
				t.Errorf("%d of %+v: %v", op, o, got)
			}
		}
		for kind := api.Nil; kind <= api.Chan; kind++ {
			want := way(kind != api.Nil)
			if kind == api.Bool {
				want = []int{1, 2}
			}
			if got := goes(op, reg(5), guard(kind, 0, reg(5))); !slices.Equal(got, want) {
				t.Errorf("%d of a register of kind %d: %v", op, kind, got)
			}
		}
		if got := goes(op, reg(5)); !slices.Equal(got, []int{1, 2}) {
			t.Errorf("%d of a register: %v", op, got)
		}
		if got := goes(op, reg(5), move(5, truth(1))); !slices.Equal(got, []int{1, 2}) {
			t.Errorf("%d of a register that is true: %v", op, got)
		}
	}
	// Both ways may lead to one block, and one of them back.
	for _, next := range [][]int{{2, 2}, {0, 1}, {1, 0}} {
		for way, op := range []int{api.OpJnz, api.OpJz} {
			c := written(branch(op, whole(1)))
			c.Blocks[0].Next = next
			if got := obeys(t, p, c).Blocks[0].Next; !slices.Equal(got, next[way:way+1]) {
				t.Errorf("%d with %v behind: %v", op, next, got)
			}
		}
	}
}
