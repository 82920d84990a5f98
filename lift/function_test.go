package lift

import (
	"math/rand"
	"slices"
	"testing"

	"portage/api"
	"portage/code"
	"portage/sample"
)

// point is a point of function 0 at a place, without operands, with so many slots.
func point(op, pc, need, slots int) api.RIns {
	return api.RIns{Op: op, Dst: -1, PC: pc, Need: need, Exit: []api.Shape{{PC: pc, Slots: upTo(slots)}}}
}

func move(pc, dst int, o api.Opnd) api.RIns {
	return api.RIns{Op: api.RMove, Dst: dst, Args: opnds(o), PC: pc}
}

// as is an instruction of another function.
func as(fn int, i api.RIns) api.RIns {
	i.Exit[0].Fn = fn
	return i
}

// blockIs holds a block against the one that is asked for.
func blockIs(t *testing.T, what string, b, want api.Block) {
	t.Helper()
	for k := range max(len(b.Ins), len(want.Ins)) {
		if k >= len(b.Ins) || k >= len(want.Ins) || !sample.SameIns(b.Ins[k], want.Ins[k]) {
			t.Fatalf("%s: instruction %d differs:\n%+v\nand not\n%+v", what, k, b.Ins, want.Ins)
		}
	}
	if !sample.SameBlock(b, want) {
		t.Fatalf("%s: at %d, next %v and not at %d, next %v", what, b.PC, b.Next, want.PC, want.Next)
	}
}

// The chapter's example, whole.
func TestExample(t *testing.T) {
	p := example(t)
	c := lifted(t, p, 1)
	if c.Fn != 1 || c.Regs != 4 || len(c.Blocks) != 2 {
		t.Fatal(c)
	}
	add := as(1, point(api.RPlain, 2, 4, 3))
	add.Code, add.Dst, add.Args = api.OpAdd, 1, regs(1, 2)
	lt := as(1, point(api.RPlain, 6, 1, 3))
	lt.Code, lt.Dst, lt.Args = api.OpLt, 1, regs(1, 2)
	blockIs(t, "block 0", c.Blocks[0], api.Block{Next: []int{0, 1}, Ins: []api.RIns{
		as(1, point(api.RPoint, 0, 2, 1)), move(0, 1, at(api.AtInt, 1)), move(1, 2, reg(0)), add,
		move(3, 0, reg(1)), move(4, 1, reg(0)), move(5, 2, at(api.AtInt, 0)), lt,
		as(1, point(api.RPoint, 7, 1, 2)), {Op: api.RBranch, Code: api.OpJnz, Dst: -1, Args: regs(1), PC: 7},
	}})
	blockIs(t, "block 1", c.Blocks[1], api.Block{PC: 8, Ins: []api.RIns{
		as(1, point(api.RPoint, 8, 1, 1)), move(8, 1, at(api.AtNil, 0)), as(1, point(api.RLeave, 9, 0, 2)),
	}})
	if Steps(c.Blocks[0]) != 8 || Steps(c.Blocks[1]) != 1 {
		t.Error("steps", Steps(c.Blocks[0]), Steps(c.Blocks[1]))
	}
}

// among is a program in which an instruction stands at place 4, over 2 locals and 4 values, and behind it, unless it ends a block, a ret of what lies there, or of nil.
func among(i api.Instr) api.Program {
	l := []api.Instr{ins(api.OpInt, 1), ins(api.OpInt, 2), ins(api.OpInt, 3), ins(api.OpInt, 4), i}
	if !code.Ends(i.Op) {
		l = append(l, ins(api.OpNil), ins(api.OpRet))
	}
	return alone(2, l...)
}

// P19.1: every row of the table, each operation at its own place: what it gives behind the four moves.
func TestRows(t *testing.T) {
	known := map[int]api.Opnd{
		api.OpNil: at(api.AtNil, 0), api.OpTrue: at(api.AtBool, 1), api.OpFalse: at(api.AtBool, 0), api.OpInt: at(api.AtInt, 1),
		api.OpConst: at(api.AtConst, 1), api.OpFunc: at(api.AtFunc, 0), api.OpLoad: reg(1), api.OpDup: reg(5),
	}
	pure := []int{api.OpEq, api.OpNe, api.OpTest, api.OpFlip}
	leave := []int{api.OpCall, api.OpRet, api.OpThrow, api.OpSpawn, api.OpYield, api.OpSend, api.OpRecv}
	for op := range api.Ops {
		if code.Jumps(op) {
			continue
		}
		i := ins(op)
		switch kind, _ := code.Operand(op); kind {
		case code.Width:
			i.A = 16
		case code.Plain, code.Funcs:
		default:
			i.A = 1
		}
		if op >= api.OpGetf && op <= api.OpDelf {
			i.A = 2
		}
		name, _ := code.Name(op)
		p := among(i)
		takes, puts, _ := code.Effect(i)
		low := 6 - takes
		f := factsOf(t, p)
		c := lifted(t, p, 0)
		spare := 2 + f.Most[0]
		if c.Regs != spare+1 {
			t.Error(name, "registers", c.Regs)
		}
		got := c.Blocks[0].Ins[5:]
		var want []api.RIns
		switch o, moves := known[op]; {
		case moves:
			want = []api.RIns{move(4, 6, o)}
		case op == api.OpNop || op == api.OpPop:
		case op == api.OpStore:
			want = []api.RIns{move(4, 1, reg(5))}
		case op == api.OpSwap:
			want = []api.RIns{move(4, spare, reg(5)), move(4, 5, reg(4)), move(4, 4, reg(spare))}
		case slices.Contains(leave, op):
			want = []api.RIns{point(api.RLeave, 4, 0, 6)}
		case slices.Contains(pure, op):
			want = []api.RIns{{Op: api.RPure, Code: op, Dst: low, Args: upTo(6)[low:], PC: 4}}
		default:
			x := point(api.RPlain, 4, 2, 6)
			x.Code, x.N, x.Args = op, i.A, upTo(6)[low:]
			if puts > 0 {
				x.Dst = low
			}
			want = []api.RIns{x}
		}
		if n := len(want); len(got) < n || !slices.EqualFunc(got[:n], want, sample.SameIns) {
			t.Errorf("%s: %+v and not %+v", name, got, want)
		}
	}
}

// P19.1: jumps: an RPoint ahead of those alone that lead back, to their own place too, and don't stand where their block begins.
func TestJumps(t *testing.T) {
	jump := func(pc int) api.RIns { return api.RIns{Op: api.RJump, Dst: -1, PC: pc} }
	jz := func(pc, r int) api.RIns {
		return api.RIns{Op: api.RBranch, Code: api.OpJz, Dst: -1, Args: regs(r), PC: pc}
	}
	// 0 nil, 1 jz 4, 2 nop, 3 jump 0, 4 nop, 5 jump 5
	c := lifted(t, alone(1, ins(api.OpNil), ins(api.OpJz, 4), ins(api.OpNop), ins(api.OpJump), ins(api.OpNop), ins(api.OpJump, 5)), 0)
	for k, want := range []api.Block{
		{PC: 0, Next: []int{2, 1}, Ins: []api.RIns{point(api.RPoint, 0, 2, 1), move(0, 1, at(api.AtNil, 0)), jz(1, 1)}},
		{PC: 2, Next: []int{0}, Ins: []api.RIns{point(api.RPoint, 2, 1, 1), point(api.RPoint, 3, 1, 1), jump(3)}},
		{PC: 4, Next: []int{3}, Ins: []api.RIns{point(api.RPoint, 4, 1, 1), {Op: api.RJump, Dst: -1, N: 1, PC: 5}}},
		{PC: 5, Next: []int{3}, Ins: []api.RIns{point(api.RPoint, 5, 1, 1), jump(5)}},
	} {
		blockIs(t, "jumps", c.Blocks[k], want)
	}
	// 0 jump 2, 1 jump 0, 2 true, 3 jz 1, 4 nil, 5 ret: a jump that begins its block, one that leads back from behind.
	c = lifted(t, alone(0, ins(api.OpJump, 2), ins(api.OpJump), ins(api.OpTrue), ins(api.OpJz, 1), ins(api.OpNil), ins(api.OpRet)), 0)
	for k, want := range []api.Block{
		{PC: 0, Next: []int{2}, Ins: []api.RIns{point(api.RPoint, 0, 1, 0), jump(0)}},
		{PC: 1, Next: []int{0}, Ins: []api.RIns{point(api.RPoint, 1, 1, 0), jump(1)}},
		{PC: 2, Next: []int{1, 3}, Ins: []api.RIns{point(api.RPoint, 2, 1, 0), move(2, 0, at(api.AtBool, 1)), point(api.RPoint, 3, 1, 1), jz(3, 0)}},
		{PC: 4, Ins: []api.RIns{point(api.RPoint, 4, 1, 0), move(4, 0, at(api.AtNil, 0)), point(api.RLeave, 5, 0, 1)}},
	} {
		blockIs(t, "jumps back", c.Blocks[k], want)
	}
}

// P19.1: a branch both of whose ways are one block has it twice; one that leads to itself has its own.
func TestBranchToOnePlace(t *testing.T) {
	p := parsed(t, "func main 0 0\ntrue\njnz on\non:\ntrue\ndup\nself:\njnz self2\nself2:\nret")
	c := lifted(t, p, 0)
	if !slices.Equal(c.Blocks[0].Next, []int{1, 1}) || !sample.Same(c, meant(p, factsOf(t, p), 0)) {
		t.Errorf("%+v", c)
	}
}

// P19.1: a block that begins with an operation, or with what it is left for, has a point without steps.
func TestNoSteps(t *testing.T) {
	c := lifted(t, alone(0, ins(api.OpRead), ins(api.OpYield), ins(api.OpRet)), 0)
	if b := c.Blocks[0]; b.Ins[0].Need != 0 || b.Ins[1].Need != 1 || b.Ins[2].Need != 0 || Steps(b) != 1 {
		t.Error(b)
	}
	if b := c.Blocks[1]; len(b.Ins) != 2 || b.Ins[0].Need != 0 || b.Ins[1].PC != 2 || Steps(b) != 0 {
		t.Error(b)
	}
}

// P19.1: drawn programs, with handlers, each function.
func TestDrawnFunctions(t *testing.T) {
	r := rand.New(rand.NewSource(191))
	for range 3000 {
		p := sample.Program(r, 40)
		f := factsOf(t, p)
		for fn := range p.Funcs {
			c, err := Function(p, f, fn)
			if want := meant(p, f, fn); err != api.OK || !sample.Same(c, want) {
				t.Fatalf("%v: %+v and not %+v", p.Funcs[fn], c, want)
			}
		}
	}
}

// P19.1: numbers that are no function's, and R2: no code beside the error.
func TestNoFunction(t *testing.T) {
	p := example(t)
	f := factsOf(t, p)
	for _, fn := range sample.Edges() {
		c, err := Function(p, f, fn)
		if there := fn == 0 || fn == 1; there != (err == api.OK) || !there && (err != api.ErrIndex || !sample.Same(c, api.Code{})) {
			t.Error(fn, c, err)
		}
	}
	if c, err := Function(api.Program{}, api.Facts{}, 0); err != api.ErrIndex || !sample.Same(c, api.Code{}) {
		t.Error(c, err)
	}
}

// P19.3.
func TestPoint(t *testing.T) {
	for _, op := range append(sample.Edges(), 4, 5, 6, 7, 8) {
		want := op == api.RPlain || op == api.RGuard || op == api.RCallee || op == api.RPoint || op == api.RLeave
		if Point(op) != want {
			t.Error(op)
		}
	}
}

// P19.3: Steps are those of the points alone, whatever the block is, and wrap.
func TestSteps(t *testing.T) {
	r := rand.New(rand.NewSource(193))
	for range 5000 {
		var b api.Block
		want := uint64(0)
		for range r.Intn(8) {
			i := api.RIns{Op: r.Intn(12) - 1, Need: sample.Edge(r)}
			if slices.Contains([]int{3, 4, 5, 6, 9}, i.Op) {
				want += uint64(i.Need)
			}
			b.Ins = append(b.Ins, i)
		}
		if Steps(b) != int(want) {
			t.Fatal(b, Steps(b), int(want))
		}
	}
}
