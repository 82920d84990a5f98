package copies

import (
	"testing"

	"portage/api"
	"portage/asm"
	"portage/base"
	"portage/lift"
	"portage/sample"
	"portage/verify"
)

func reg(n int) api.Opnd { return at(api.AtReg, int64(n)) }

func at(kind int, n int64) api.Opnd { return api.Opnd{Kind: kind, N: n} }

func opnds(l ...api.Opnd) []api.Opnd { return l }

// regs are registers as operands.
func regs(l ...int) []api.Opnd {
	var out []api.Opnd
	for _, n := range l {
		out = append(out, reg(n))
	}
	return out
}

// move is an RMove.
func move(dst int, o api.Opnd) api.RIns {
	return api.RIns{Op: api.RMove, Dst: dst, Args: opnds(o), PC: 3}
}

// pure is an operation that writes a register.
func pure(dst int, l ...api.Opnd) api.RIns {
	return api.RIns{Op: api.RPure, Code: api.OpEq, Dst: dst, Args: l, PC: 5}
}

// point asks for some operands.
func point(l ...api.Opnd) api.RIns {
	return api.RIns{Op: api.RPoint, Dst: -1, PC: 6, Need: 1, Exit: []api.Shape{{Fn: 1, PC: 6, Slots: l}}}
}

// block is register code of one block.
func block(l ...api.RIns) api.Code {
	return api.Code{Fn: 3, Regs: 9, Blocks: []api.Block{{PC: 4, Ins: l, Next: []int{5, 6}}}}
}

// parsed is a program out of its text.
func parsed(t testing.TB, text string) api.Program {
	t.Helper()
	p, line, err := asm.Parse(text)
	if err != api.OK {
		t.Fatal(err, "in line", line)
	}
	return p
}

// factsOf are the facts of a program that is verified.
func factsOf(t testing.TB, p api.Program) api.Facts {
	t.Helper()
	f, place, err := verify.Program(p)
	if err != api.OK {
		t.Fatal(err, "at", place)
	}
	return f
}

// lifted is the register code of a function, without any pass.
func lifted(t testing.TB, p api.Program, fn int) api.Code {
	t.Helper()
	c, err := lift.Function(p, factsOf(t, p), fn)
	if err != api.OK {
		t.Fatal(err)
	}
	return c
}

// core is a core over a state, with some input.
func core(t testing.TB, p api.Program, l api.Limits, s api.State) *base.Core {
	t.Helper()
	c, err := base.New(p, l, []string{"in", "x", "12", "", "more"}, s)
	if err != api.OK {
		t.Fatal("a core:", err)
	}
	return c
}

// operands are all operands of an instruction, its Args and the slots of its Exit.
func operands(x api.RIns) []api.Opnd {
	l := append([]api.Opnd(nil), x.Args...)
	for _, s := range x.Exit {
		l = append(l, s.Slots...)
	}
	return l
}

// turns is how many operands, and how many moves less, tell what became of register code.
func turns(before, after api.Code) (operandsTurned, movesLeftOut int) {
	for k, b := range before.Blocks {
		movesLeftOut += len(b.Ins) - len(after.Blocks[k].Ins)
		one, other := others(b), others(after.Blocks[k])
		for j := range one {
			l := operands(other[j])
			for i, o := range operands(one[j]) {
				if l[i] != o {
					operandsTurned++
				}
			}
		}
	}
	return operandsTurned, movesLeftOut
}

// others are the instructions of a block that are no RMoves.
func others(b api.Block) []api.RIns {
	var l []api.RIns
	for _, x := range b.Ins {
		if x.Op != api.RMove {
			l = append(l, x)
		}
	}
	return l
}

// crowd is register code, right or not, of few registers that are moved about much.
func crowd(r sample.Source) api.Code {
	few := 2 + r.Intn(4)
	c := api.Code{Fn: sample.Edge(r), Regs: few}
	for range 1 + r.Intn(3) {
		b := api.Block{PC: sample.Edge(r), Next: []int{r.Intn(3)}}
		for range r.Intn(24) {
			b.Ins = append(b.Ins, crowded(r, few))
		}
		c.Blocks = append(c.Blocks, b)
	}
	return c
}

// crowded is one of its instructions: mostly a move; now and then one that is odd.
func crowded(r sample.Source, few int) api.RIns {
	some := func(n int) []api.Opnd {
		var l []api.Opnd
		for range n {
			l = append(l, crowdedOpnd(r, few))
		}
		return l
	}
	x := move(r.Intn(few), crowdedOpnd(r, few))
	switch r.Intn(12) {
	case 0:
		x = pure(r.Intn(few), some(2)...)
	case 1:
		x = point(some(3)...)
		x.Exit = append(x.Exit, api.Shape{Fn: 2, Slots: some(2)})
	case 2:
		x = api.RIns{Op: 1 + r.Intn(9), Code: r.Intn(api.Ops), Dst: r.Intn(few+1) - 1, Args: some(r.Intn(4)), N: int64(sample.Edge(r)), PC: sample.Edge(r), Need: sample.Edge(r)}
		for range r.Intn(4) {
			x.Exit = append(x.Exit, api.Shape{Fn: sample.Edge(r), PC: sample.Edge(r), Slots: some(r.Intn(4))})
		}
	case 3:
		x.Args = some(r.Intn(3))
	case 4:
		x.Dst = sample.Edge(r)
	}
	return x
}

func crowdedOpnd(r sample.Source, few int) api.Opnd {
	switch r.Intn(20) {
	case 0:
		return at(r.Intn(7), int64(r.Intn(few)))
	case 1:
		return at(sample.Edge(r), int64(r.Intn(few)))
	case 2:
		return reg(sample.Edge(r))
	}
	return reg(r.Intn(few))
}
