package fold

import (
	"slices"
	"testing"

	"portage/api"
	"portage/asm"
	"portage/base"
	"portage/lift"
	"portage/sample"
	"portage/verify"
)

func at(kind int, n int64) api.Opnd { return api.Opnd{Kind: kind, N: n} }

func reg(n int) api.Opnd { return at(api.AtReg, int64(n)) }

func whole(n int64) api.Opnd { return at(api.AtInt, n) }

func truth(n int64) api.Opnd { return at(api.AtBool, n) }

func null() api.Opnd { return at(api.AtNil, 0) }

// bits is a real by its bits.
func bits(n uint64) api.Opnd { return at(api.AtReal, int64(n)) }

// Reals, by their bits.
const (
	half     = 0x3fe0000000000000
	one      = 0x3ff0000000000000
	oneHalf  = 0x3ff8000000000000
	two      = 0x4000000000000000
	infinite = 0x7ff0000000000000
	nan      = 0x7ff8000000000000
	minus0   = 1 << 63
)

func opnds(l ...api.Opnd) []api.Opnd { return l }

// regs are registers as operands.
func regs(l ...int) []api.Opnd {
	var out []api.Opnd
	for _, n := range l {
		out = append(out, reg(n))
	}
	return out
}

// place is where the frames of all points of plainly written code are: main at its beginning.
func place() []api.Shape { return []api.Shape{{Slots: regs(0, 1, 2, 3, 4, 5, 6, 7)}} }

func move(dst int, o api.Opnd) api.RIns {
	return api.RIns{Op: api.RMove, Dst: dst, Args: opnds(o), PC: 31}
}

func pure(op, kind, dst int, l ...api.Opnd) api.RIns {
	return api.RIns{Op: api.RPure, Code: op, N: int64(kind), Dst: dst, Args: l, PC: 32}
}

func plain(i api.Instr, dst, need int, l ...api.Opnd) api.RIns {
	return api.RIns{Op: api.RPlain, Code: i.Op, N: i.A, Dst: dst, Args: l, PC: 33, Need: need, Exit: place()}
}

func guard(kind, need int, o api.Opnd) api.RIns {
	return api.RIns{Op: api.RGuard, N: int64(kind), Dst: -1, Args: opnds(o), PC: 34, Need: need, Exit: place()}
}

func callee(fn, need int, o api.Opnd) api.RIns {
	return api.RIns{Op: api.RCallee, N: int64(fn), Dst: -1, Args: opnds(o), PC: 35, Need: need, Exit: place()}
}

func point(need int) api.RIns {
	return api.RIns{Op: api.RPoint, Dst: -1, PC: 36, Need: need, Exit: place()}
}

func branch(op int, o api.Opnd) api.RIns {
	return api.RIns{Op: api.RBranch, Code: op, Dst: -1, Args: opnds(o), PC: 37}
}

func jump() api.RIns { return api.RIns{Op: api.RJump, N: 1, Dst: -1, PC: 38} }

func leave() api.RIns { return api.RIns{Op: api.RLeave, Dst: -1, PC: 39, Exit: place()} }

// given is the program of plainly written code. Its main has 8 locals and blocks at 0, 2, 4; its constants are a real and a text.
func given(t testing.TB) api.Program {
	t.Helper()
	return parsed(t, "const real 0.5\nconst text \"k\"\nfunc main 0 8\ntrue\njz l\nnil\nret\nl:\nnil\nret\nfunc f 0 0\nnil\nret\nfunc g 2 2\nnil\nret")
}

// written is right register code of that program's main: its first block is a point of Need 1 and then these instructions, the last of which ends it; the others leave.
func written(l ...api.RIns) api.Code {
	first := api.Block{Ins: append([]api.RIns{point(1)}, l...)}
	switch l[len(l)-1].Op {
	case api.RJump:
		first.Next = []int{1}
	case api.RBranch:
		first.Next = []int{1, 2}
	}
	c := api.Code{Regs: 12, Blocks: []api.Block{first, {PC: 2}, {PC: 4}}}
	for k := range c.Blocks[1:] {
		b := &c.Blocks[k+1]
		p, x := point(1), leave()
		p.Exit[0].PC, x.Exit[0].PC = b.PC, b.PC
		b.Ins = []api.RIns{p, x}
	}
	return c
}

// became is what the instructions behind the first point of that block became, and its Need.
func became(t *testing.T, p api.Program, l ...api.RIns) ([]api.RIns, int) {
	t.Helper()
	b := obeys(t, p, written(l...)).Blocks[0]
	return b.Ins[1:], b.Ins[0].Need
}

// kindKnown is the kind that is known of a register behind some instructions, as guards tell; -1: none is.
func kindKnown(t *testing.T, p api.Program, r int, l ...api.RIns) int {
	t.Helper()
	known, stays := -1, 0
	without, _ := became(t, p, slices.Concat(l, []api.RIns{jump()})...)
	for kind := api.Nil; kind <= api.Chan; kind++ {
		got, _ := became(t, p, slices.Concat(l, []api.RIns{guard(kind, 0, reg(r)), jump()})...)
		switch {
		case got[len(got)-1].Op == api.RLeave:
		case len(got) == len(without):
			known = kind
		default:
			stays++
		}
	}
	if stays != 0 && stays != api.Chan+1 || stays == 0 && known < 0 {
		t.Fatalf("known of %d: %d, and %d guards stay behind %+v", r, known, stays, l)
	}
	return known
}

// parsed is a program out of its text.
func parsed(t testing.TB, text string) api.Program {
	t.Helper()
	p, line, err := asm.Parse(text)
	if err != api.OK {
		t.Fatal(err, "in line", line)
	}
	return p
}

// factsOf are the facts of a program that is verified.
func factsOf(t testing.TB, p api.Program) api.Facts {
	t.Helper()
	f, place, err := verify.Program(p)
	if err != api.OK {
		t.Fatal(err, "at", place)
	}
	return f
}

// lifted is the register code of a function, without any pass.
func lifted(t testing.TB, p api.Program, fn int) api.Code {
	t.Helper()
	c, err := lift.Function(p, factsOf(t, p), fn)
	if err != api.OK {
		t.Fatal(err)
	}
	return c
}

// core is a core over a state, with some input.
func core(t testing.TB, p api.Program, l api.Limits, s api.State) *base.Core {
	t.Helper()
	c, err := base.New(p, l, []string{"in", "x", "12", "", "more"}, s)
	if err != api.OK {
		t.Fatal("a core:", err)
	}
	return c
}

// turns is what became of register code: how many operations became moves, how many guards were taken out, how many blocks were cut off at a guard, how many branches became jumps.
type turns struct {
	moves, guards, cut, jumps int
}

func (n *turns) add(before, after api.Code) {
	count := func(b api.Block, op int) int {
		return len(slices.DeleteFunc(slices.Clone(b.Ins), func(x api.RIns) bool { return x.Op != op }))
	}
	for k, b := range before.Blocks {
		a := after.Blocks[k]
		if last := len(a.Ins) - 1; a.Ins[last].Op == api.RLeave && !sample.SameIns(a.Ins[last], b.Ins[len(b.Ins)-1]) {
			n.cut++
			continue
		}
		n.moves += count(a, api.RMove) - count(b, api.RMove)
		n.guards += count(b, api.RGuard) - count(a, api.RGuard)
		n.jumps += count(b, api.RBranch) - count(a, api.RBranch)
	}
}

// enough asks for so many of each.
func (n turns) enough(t *testing.T, many int) {
	t.Helper()
	if min(n.moves, n.guards, n.cut, n.jumps) < many {
		t.Errorf("little was turned: %+v", n)
	}
}
