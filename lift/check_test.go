package lift

import (
	"math"
	"math/rand"
	"slices"
	"testing"

	"portage/api"
	"portage/code"
	"portage/sample"
)

// checked holds Check against the sentences of the chapter.
func checked(t *testing.T, p api.Program, f api.Facts, c api.Code) string {
	t.Helper()
	why := flaw(p, f, c)
	want := api.OK
	if why != "" {
		want = api.ErrForm
	}
	if err := Check(p, f, c); err != want {
		t.Fatalf("%v and not %v (%s):\n%v\n%+v", err, want, why, p, c)
	}
	return why
}

// caller is a program whose main, function 0, has the call of 1 value at 2 over 2 values more, and whose function 1 is small.
func caller(t testing.TB) api.Program {
	return parsed(t, "const text \"k\"\nconst real 1.5\nfunc main 0 2\nnil\nnil\nfunc sq\nint 5\ncall 1\nstore 0\npop\nret\nfunc sq 1 2\nload 0\nload 0\nmul\nret\n")
}

// turned is main's code of caller, with a turn.
func turned(t testing.TB, turn func(c *api.Code, b *api.Block)) (api.Program, api.Facts, api.Code) {
	p := caller(t)
	c := lifted(t, p, 0)
	turn(&c, &c.Blocks[0])
	return p, factsOf(t, p), c
}

// P19.2: each sentence at its edges, the right side and the wrong one.
func TestCheckSentences(t *testing.T) {
	type turn struct {
		name string
		want api.Errno
		do   func(c *api.Code, b *api.Block)
	}
	// mid lays an instruction ahead of the last one of block 0, at the place of the call.
	mid := func(i api.RIns) func(c *api.Code, b *api.Block) {
		return func(c *api.Code, b *api.Block) {
			if Point(i.Op) && i.Exit == nil {
				i.Exit = []api.Shape{{PC: 4, Slots: upTo(6)}}
			}
			b.Ins = slices.Insert(b.Ins, len(b.Ins)-1, i)
		}
	}
	guard := func(n int64, l ...api.Opnd) api.RIns { return api.RIns{Op: api.RGuard, Dst: -1, N: n, Args: l} }
	callee := func(n int64) api.RIns { return api.RIns{Op: api.RCallee, Dst: -1, N: n, Args: regs(4)} }
	pure := func(op, dst int, n int64, args ...api.Opnd) api.RIns {
		return api.RIns{Op: api.RPure, Code: op, Dst: dst, N: n, Args: args}
	}
	plain := func(op, dst int, n int64, args ...api.Opnd) api.RIns {
		return api.RIns{Op: api.RPlain, Code: op, Dst: dst, N: n, Args: args}
	}
	exit := func(need int, l ...api.Shape) api.RIns {
		return api.RIns{Op: api.RPoint, Dst: -1, Need: need, Exit: l}
	}
	for _, c := range []turn{
		{"as it is", api.OK, func(c *api.Code, b *api.Block) {}},
		{"Fn below", api.ErrForm, func(c *api.Code, b *api.Block) { c.Fn = -1 }},
		{"Fn above", api.ErrForm, func(c *api.Code, b *api.Block) { c.Fn = 2 }},
		{"no registers", api.ErrForm, func(c *api.Code, b *api.Block) { c.Regs = 0 }},
		{"Regs below", api.ErrForm, func(c *api.Code, b *api.Block) { c.Regs = -1 }},
		{"most registers", api.OK, func(c *api.Code, b *api.Block) { c.Regs = 512 }},
		{"one register more", api.ErrForm, func(c *api.Code, b *api.Block) { c.Regs = 513 }},
		{"without swap's register", api.OK, func(c *api.Code, b *api.Block) { c.Regs = 6 }},
		{"without the upmost register", api.ErrForm, func(c *api.Code, b *api.Block) { c.Regs = 5 }},
		{"a block less", api.ErrForm, func(c *api.Code, b *api.Block) { c.Blocks = c.Blocks[:1] }},
		{"a block more", api.ErrForm, func(c *api.Code, b *api.Block) { c.Blocks = append(c.Blocks, c.Blocks[1]) }},
		{"no blocks", api.ErrForm, func(c *api.Code, b *api.Block) { c.Blocks = nil }},
		{"a block's PC", api.ErrForm, func(c *api.Code, b *api.Block) { b.PC = 1 }},
		{"an instruction's PC", api.OK, func(c *api.Code, b *api.Block) { b.Ins[0].PC, b.Ins[1].PC = -77, 1<<40 }},
		{"no instructions", api.ErrForm, func(c *api.Code, b *api.Block) { b.Ins = nil }},
		{"the point alone", api.ErrForm, func(c *api.Code, b *api.Block) { b.Ins = b.Ins[:1] }},
		{"the leave alone", api.ErrForm, func(c *api.Code, b *api.Block) { b.Ins = b.Ins[5:] }},
		{"point and leave alone", api.OK, func(c *api.Code, b *api.Block) { b.Ins = slices.Delete(b.Ins, 1, 5) }},
		{"no end", api.ErrForm, func(c *api.Code, b *api.Block) { b.Ins = b.Ins[:5] }},
		{"a leave twice", api.ErrForm, func(c *api.Code, b *api.Block) { b.Ins = append(b.Ins, b.Ins[5]) }},
		{"a jump in the midst", api.ErrForm, mid(api.RIns{Op: api.RJump, Dst: -1})},
		{"a branch in the midst", api.ErrForm, mid(api.RIns{Op: api.RBranch, Code: api.OpJz, Dst: -1, Args: regs(0)})},
		{"no first point", api.ErrForm, func(c *api.Code, b *api.Block) { b.Ins = b.Ins[1:] }},
		{"a guard for a first point", api.ErrForm, func(c *api.Code, b *api.Block) { b.Ins[0].Op, b.Ins[0].Args = api.RGuard, regs(0) }},
		{"a leave with a next", api.ErrForm, func(c *api.Code, b *api.Block) { b.Next = []int{1} }},
		{"a jump for the leave", api.OK, func(c *api.Code, b *api.Block) { b.Ins[5], b.Next = api.RIns{Op: api.RJump, Dst: -1}, []int{1} }},
		{"a jump that stands for nothing", api.OK, func(c *api.Code, b *api.Block) {
			b.Ins[5], b.Next = api.RIns{Op: api.RJump, Dst: -1, N: 1}, []int{1}
		}},
		{"a jump of 2", api.ErrForm, func(c *api.Code, b *api.Block) {
			b.Ins[5], b.Next = api.RIns{Op: api.RJump, Dst: -1, N: 2}, []int{1}
		}},
		{"a jump of an operation", api.ErrForm, func(c *api.Code, b *api.Block) {
			b.Ins[5], b.Next = api.RIns{Op: api.RJump, Dst: -1, Code: api.OpJump}, []int{1}
		}},
		{"a jump to nowhere", api.ErrForm, func(c *api.Code, b *api.Block) { b.Ins[5] = api.RIns{Op: api.RJump, Dst: -1} }},
		{"a jump to two", api.ErrForm, func(c *api.Code, b *api.Block) { b.Ins[5], b.Next = api.RIns{Op: api.RJump, Dst: -1}, []int{1, 1} }},
		{"a jump to no block", api.ErrForm, func(c *api.Code, b *api.Block) { b.Ins[5], b.Next = api.RIns{Op: api.RJump, Dst: -1}, []int{2} }},
		{"a jump below", api.ErrForm, func(c *api.Code, b *api.Block) { b.Ins[5], b.Next = api.RIns{Op: api.RJump, Dst: -1}, []int{-1} }},
		{"a branch", api.OK, func(c *api.Code, b *api.Block) {
			b.Ins[5], b.Next = api.RIns{Op: api.RBranch, Dst: -1, Code: api.OpJz, Args: regs(0)}, []int{0, 1}
		}},
		{"a branch of jump", api.ErrForm, func(c *api.Code, b *api.Block) {
			b.Ins[5], b.Next = api.RIns{Op: api.RBranch, Dst: -1, Code: api.OpJump, Args: regs(0)}, []int{0, 1}
		}},
		{"a branch of 1", api.ErrForm, func(c *api.Code, b *api.Block) {
			b.Ins[5], b.Next = api.RIns{Op: api.RBranch, Dst: -1, Code: api.OpJz, N: 1, Args: regs(0)}, []int{0, 1}
		}},
		{"a branch with one way", api.ErrForm, func(c *api.Code, b *api.Block) {
			b.Ins[5], b.Next = api.RIns{Op: api.RBranch, Dst: -1, Code: api.OpJnz, Args: regs(0)}, []int{1}
		}},
		{"round without a step", api.ErrForm, func(c *api.Code, b *api.Block) {
			b.Ins[5], b.Next, b.Ins[0].Need = api.RIns{Op: api.RJump, Dst: -1}, []int{0}, 0
		}},
		{"round with a step", api.OK, func(c *api.Code, b *api.Block) {
			b.Ins[5], b.Next, b.Ins[0].Need = api.RIns{Op: api.RJump, Dst: -1}, []int{0}, 1
		}},
		{"on without a step", api.OK, func(c *api.Code, b *api.Block) {
			b.Ins[5], b.Next, b.Ins[0].Need = api.RIns{Op: api.RJump, Dst: -1}, []int{1}, 0
		}},
		{"back without a step", api.ErrForm, func(c *api.Code, b *api.Block) {
			l := &c.Blocks[1]
			l.Ins, l.Next = []api.RIns{l.Ins[0], {Op: api.RBranch, Dst: -1, Code: api.OpJz, Args: regs(0)}}, []int{1, 0}
			l.Ins[0].Need = 0
		}},
		{"a move", api.OK, mid(move(0, 5, reg(0)))},
		{"a move with an N", api.ErrForm, mid(api.RIns{Op: api.RMove, N: 1, Args: regs(0)})},
		{"a move with a Code", api.ErrForm, mid(api.RIns{Op: api.RMove, Code: api.OpNil, Args: regs(0)})},
		{"a move of two", api.ErrForm, mid(api.RIns{Op: api.RMove, Args: regs(0, 1)})},
		{"a move of none", api.ErrForm, mid(api.RIns{Op: api.RMove})},
		{"a move to nowhere", api.ErrForm, mid(move(0, -1, reg(0)))},
		{"a move beyond", api.ErrForm, mid(move(0, 7, reg(0)))},
		{"a move with a Need", api.ErrForm, mid(api.RIns{Op: api.RMove, Args: regs(0), Need: 1})},
		{"a move with an Exit", api.ErrForm, mid(api.RIns{Op: api.RMove, Args: regs(0), Exit: []api.Shape{{PC: 4, Slots: upTo(6)}}})},
		{"no such instruction", api.ErrForm, mid(api.RIns{Op: 10, Dst: -1})},
		{"none at all", api.ErrForm, mid(api.RIns{Dst: -1})},
		{"a guard", api.OK, mid(guard(api.Chan, reg(0)))},
		{"a guard of kind 10", api.ErrForm, mid(guard(10, reg(0)))},
		{"a guard below", api.ErrForm, mid(guard(-1, reg(0)))},
		{"a guard of none", api.ErrForm, mid(guard(api.Int))},
		{"a guard with a Dst", api.ErrForm, mid(api.RIns{Op: api.RGuard, N: api.Int, Args: regs(0)})},
		{"a guard with a Code", api.ErrForm, mid(api.RIns{Op: api.RGuard, Code: 1, Dst: -1, Args: regs(0)})},
		{"a callee", api.OK, mid(callee(1))},
		{"a callee that is none", api.ErrForm, mid(callee(2))},
		{"a callee below", api.ErrForm, mid(callee(-1))},
		{"a callee with a Code", api.ErrForm, mid(api.RIns{Op: api.RCallee, Code: 1, Dst: -1, Args: regs(0)})},
		{"a pure one", api.OK, mid(pure(api.OpEq, 0, 0, reg(1), at(api.AtConst, 1)))},
		{"a pure one of two that takes one", api.ErrForm, mid(pure(api.OpTest, 0, 0, reg(1), reg(2)))},
		{"a pure one of a kind", api.ErrForm, mid(pure(api.OpEq, 0, api.Int, reg(1), reg(2)))},
		{"add of no kind", api.ErrForm, mid(pure(api.OpAdd, 0, 0, reg(1), reg(2)))},
		{"add of ints", api.OK, mid(pure(api.OpAdd, 0, api.Int, reg(1), reg(2)))},
		{"add of reals", api.OK, mid(pure(api.OpAdd, 0, api.Real, reg(1), reg(2)))},
		{"add of texts", api.ErrForm, mid(pure(api.OpAdd, 0, api.Text, reg(1), reg(2)))},
		{"add of one", api.ErrForm, mid(pure(api.OpAdd, 0, api.Int, reg(1)))},
		{"add to nowhere", api.ErrForm, mid(pure(api.OpAdd, -1, api.Int, reg(1), reg(2)))},
		{"neg of a real", api.OK, mid(pure(api.OpNeg, 0, api.Real, reg(1)))},
		{"div of ints", api.ErrForm, mid(pure(api.OpDiv, 0, api.Int, reg(1), reg(2)))},
		{"div of reals", api.OK, mid(pure(api.OpDiv, 0, api.Real, reg(1), reg(2)))},
		{"no operation", api.ErrForm, mid(pure(-1, 0, api.Int))},
		{"print", api.OK, mid(plain(api.OpPrint, -1, 0, reg(1)))},
		{"print that gives", api.ErrForm, mid(plain(api.OpPrint, 0, 0, reg(1)))},
		{"read", api.OK, mid(plain(api.OpRead, 0, 0))},
		{"read that gives nothing", api.ErrForm, mid(plain(api.OpRead, -1, 0))},
		{"a pure one as a plain one", api.OK, mid(plain(api.OpEq, 0, 0, reg(1), reg(2)))},
		{"nop", api.ErrForm, mid(plain(api.OpNop, -1, 0))},
		{"yield", api.ErrForm, mid(plain(api.OpYield, -1, 0))},
		{"call", api.ErrForm, mid(plain(api.OpCall, 0, 0, reg(1)))},
		{"array", api.OK, mid(plain(api.OpArray, 0, 3, regs(1, 2, 3)...))},
		{"array of fewer", api.ErrForm, mid(plain(api.OpArray, 0, 3, regs(1, 2)...))},
		{"array of too many", api.ErrForm, mid(plain(api.OpArray, 0, 64, slices.Repeat(regs(1), 64)...))},
		{"array of most", api.OK, mid(plain(api.OpArray, 0, 63, slices.Repeat(regs(1), 63)...))},
		{"ext 24", api.ErrForm, mid(plain(api.OpExt, 0, 24, reg(1)))},
		{"ext 32", api.OK, mid(plain(api.OpExt, 0, 32, reg(1)))},
		{"add with an operand", api.ErrForm, mid(plain(api.OpAdd, 0, 1, regs(1, 2)...))},
		{"a key", api.OK, mid(plain(api.OpGetf, 0, 0, reg(1)))},
		{"a key that is a real", api.ErrForm, mid(plain(api.OpHasf, 0, 1, reg(1)))},
		{"a key that there isn't", api.ErrForm, mid(plain(api.OpDelf, -1, 2, reg(1)))},
		{"a key below", api.ErrForm, mid(plain(api.OpSetf, -1, -1, regs(1, 2)...))},
		{"most steps", api.OK, mid(exit(4000, api.Shape{PC: 4, Slots: upTo(6)}))},
		{"a step more", api.ErrForm, mid(exit(4001, api.Shape{PC: 4, Slots: upTo(6)}))},
		{"steps below", api.ErrForm, mid(exit(-1, api.Shape{PC: 4, Slots: upTo(6)}))},
		{"a leave with a step", api.ErrForm, func(c *api.Code, b *api.Block) { b.Ins[5].Need = 1 }},
		{"no shape", api.ErrForm, mid(exit(0, []api.Shape{}...))},
		{"any other place", api.OK, mid(exit(0, api.Shape{PC: 1, Slots: regs(0, 0, 6)}))},
		{"a slot less", api.ErrForm, mid(exit(0, api.Shape{PC: 4, Slots: upTo(5)}))},
		{"a slot more", api.ErrForm, mid(exit(0, api.Shape{PC: 4, Slots: upTo(7)}))},
		{"a place behind", api.ErrForm, mid(exit(0, api.Shape{PC: 8, Slots: upTo(2)}))},
		{"a place below", api.ErrForm, mid(exit(0, api.Shape{PC: -1, Slots: upTo(2)}))},
		{"another function", api.ErrForm, mid(exit(0, api.Shape{Fn: 1, Slots: upTo(2)}))},
		{"no function", api.ErrForm, mid(exit(0, api.Shape{Fn: 2, Slots: upTo(2)}))},
		{"two shapes", api.OK, mid(exit(0, api.Shape{PC: 4, Slots: upTo(4)}, api.Shape{Fn: 1, PC: 1, Slots: upTo(3)}))},
		{"two shapes of the same", api.OK, mid(exit(0, api.Shape{PC: 4, Slots: upTo(4)}, api.Shape{PC: 0, Slots: upTo(2)}))},
		{"two shapes, the call's values not off", api.ErrForm, mid(exit(0, api.Shape{PC: 4, Slots: upTo(6)}, api.Shape{Fn: 1, PC: 1, Slots: upTo(3)}))},
		{"two shapes, no call", api.ErrForm, mid(exit(0, api.Shape{PC: 3, Slots: upTo(3)}, api.Shape{Fn: 1, PC: 1, Slots: upTo(3)}))},
		{"two shapes, the second of no function", api.ErrForm, mid(exit(0, api.Shape{PC: 4, Slots: upTo(4)}, api.Shape{Fn: 2, Slots: upTo(2)}))},
		{"two shapes, the first another's", api.ErrForm, mid(exit(0, api.Shape{Fn: 1, PC: 1, Slots: upTo(3)}, api.Shape{PC: 4, Slots: upTo(6)}))},
		{"three shapes", api.ErrForm, mid(exit(0, api.Shape{PC: 4, Slots: upTo(4)}, api.Shape{PC: 4, Slots: upTo(4)}, api.Shape{Fn: 1, PC: 1, Slots: upTo(3)}))},
		{"a wrong slot", api.ErrForm, mid(exit(0, api.Shape{PC: 1, Slots: regs(0, 1, 7)}))},
		{"the first point at another place", api.ErrForm, func(c *api.Code, b *api.Block) {
			b.Ins[0].Exit[0] = api.Shape{PC: 1, Slots: upTo(3)}
		}},
		{"the first point at another place of as many slots", api.ErrForm, func(c *api.Code, b *api.Block) { c.Blocks[1].Ins[0].Exit[0].PC = 3 }},
		{"the first point's slots", api.ErrForm, func(c *api.Code, b *api.Block) { b.Ins[0].Exit[0].Slots[1] = reg(0) }},
		{"the first point's slots known", api.ErrForm, func(c *api.Code, b *api.Block) { b.Ins[0].Exit[0].Slots[0] = at(api.AtNil, 0) }},
		{"the first point with two shapes", api.ErrForm, func(c *api.Code, b *api.Block) {
			b.Ins[0].Exit = []api.Shape{{PC: 4, Slots: upTo(4)}, {PC: 0, Slots: upTo(2)}}
		}},
	} {
		p, f, x := turned(t, c.do)
		if err := Check(p, f, x); err != c.want {
			t.Error(c.name, "is", err)
		}
		if (flaw(p, f, x) == "") != (c.want == api.OK) {
			t.Error(c.name, "is against the model:", flaw(p, f, x))
		}
	}
}

// P19.2: operands of every kind at their edges, in Args and in slots.
func TestCheckOperands(t *testing.T) {
	for _, o := range someOpnds() {
		for _, where := range []func(c *api.Code, b *api.Block){
			func(c *api.Code, b *api.Block) { b.Ins[1].Args[0] = o },
			func(c *api.Code, b *api.Block) { b.Ins[5].Exit[0].Slots[3] = o },
		} {
			p, f, c := turned(t, where)
			checked(t, p, f, c)
		}
	}
	right := map[api.Opnd]bool{
		reg(6): true, reg(7): false, reg(-1): false, at(api.AtNil, 0): true, at(api.AtNil, 1): false, at(api.AtBool, 1): true, at(api.AtBool, 2): false, at(api.AtBool, -1): false,
		at(api.AtInt, math.MinInt64): true, at(api.AtReal, 0x7FF8000000000000): true, at(api.AtReal, -1): false, at(api.AtReal, 0x7FF0000000000001): false, at(api.AtReal, 0x7FF0000000000000): true, at(api.AtReal, math.MinInt64): true,
		at(api.AtConst, 1): true, at(api.AtConst, 2): false, at(api.AtConst, -1): false, at(api.AtFunc, 1): true, at(api.AtFunc, 2): false, at(api.AtFunc, -1): false, at(7, 0): false, at(-1, 0): false,
	}
	for o, want := range right {
		p, f, c := turned(t, func(c *api.Code, b *api.Block) { b.Ins[1].Args[0] = o })
		if (Check(p, f, c) == api.OK) != want {
			t.Error(o)
		}
	}
}

// someOpnds are operands of every kind, right ones and wrong ones.
func someOpnds() []api.Opnd {
	var l []api.Opnd
	for kind := -2; kind < 9; kind++ {
		for _, n := range append(sample.Edges(), 0x7FF8000000000000, -0x0008000000000000, 0x7FF0000000000000, 0x7FF0000000000001, 5, 6, 7, 128) {
			l = append(l, at(kind, int64(n)))
		}
	}
	return l
}

// P19.2: RPure and RPlain of every operation, with every N that is near, as many operands as may be, with a Dst and without.
func TestCheckOperations(t *testing.T) {
	p := caller(t)
	f := factsOf(t, p)
	taken := 0
	for _, kind := range []int{api.RPure, api.RPlain} {
		for op := -1; op <= api.Ops; op++ {
			for n := int64(-1); n <= 66; n++ {
				takes, _, _ := code.Effect(ins(op, n))
				for _, args := range []int{0, 1, 2, 3, takes} {
					for _, dst := range []int{-1, 0} {
						c := lifted(t, p, 0)
						b := &c.Blocks[0]
						i := api.RIns{Op: kind, Code: op, Dst: dst, N: n, Args: slices.Repeat(regs(1), args)}
						if kind == api.RPlain {
							i.Exit = []api.Shape{{Slots: upTo(2)}}
						}
						b.Ins = slices.Insert(b.Ins, 1, i)
						if checked(t, p, f, c) == "" {
							taken++
						}
					}
				}
			}
		}
	}
	if taken < 100 {
		t.Error("few are taken:", taken)
	}
}

// P19.2: register code that is right or nearly so, drawn: all passes' instructions, one or two things turned.
func TestDrawnCode(t *testing.T) {
	r := rand.New(rand.NewSource(192))
	told := map[string]int{}
	for range 1500 {
		p := sample.Program(r, 25)
		f := factsOf(t, p)
		c := sample.Code(r, p, f, lifted(t, p, r.Intn(len(p.Funcs))))
		if why := checked(t, p, f, c); why != "" {
			t.Fatal("drawn code is wrong:", why)
		}
		for range 20 {
			x := sample.Copied(c)
			sample.Spoil(r, &x)
			if r.Intn(4) == 0 {
				sample.Spoil(r, &x)
			}
			told[checked(t, p, f, x)]++
		}
	}
	if len(told) < 15 || told[""] < 1000 {
		t.Error("of few flaws:", told)
	}
}

// P19.2: code that names no register may have none, but not fewer.
func TestNoRegisters(t *testing.T) {
	p := alone(0, ins(api.OpNil), ins(api.OpRet))
	f := factsOf(t, p)
	c := api.Code{Blocks: []api.Block{{Ins: []api.RIns{point(api.RPoint, 0, 0, 0), point(api.RLeave, 0, 0, 0)}}}}
	for _, n := range sample.Edges() {
		c.Regs = n
		if why := checked(t, p, f, c); (why == "") != (0 <= n && n <= api.MaxRegs) {
			t.Error(n, why)
		}
	}
}

// P19.2: a block stands where the graph has it, also if its first point agrees with the place where it says it is.
func TestBlockElsewhere(t *testing.T) {
	p := alone(0, ins(api.OpNop), ins(api.OpNil), ins(api.OpRet))
	f := factsOf(t, p)
	c := lifted(t, p, 0)
	c.Blocks[0].PC, c.Blocks[0].Ins[0].Exit[0].PC = 1, 1
	if why := checked(t, p, f, c); why != "each with the PC of its start" {
		t.Error(why)
	}
}

// P19.2: the first point of a block that begins with a call has one shape too, though a second one could stand upon it.
func TestBlockAtCall(t *testing.T) {
	p := parsed(t, "func main 0 1\nfunc main\njump on\non:\ncall 0\nret")
	f := factsOf(t, p)
	c := lifted(t, p, 0)
	two := []api.Shape{{PC: 2, Slots: upTo(1)}, {PC: 0, Slots: upTo(1)}}
	b := &c.Blocks[1]
	b.Ins = slices.Insert(b.Ins, 1, api.RIns{Op: api.RPoint, Dst: -1, Exit: two})
	if why := checked(t, p, f, c); why != "" {
		t.Error("in the midst of the block:", why)
	}
	b.Ins[0].Exit = two
	if why := checked(t, p, f, c); why != "the first RPoint's Exit" {
		t.Error(why)
	}
}
