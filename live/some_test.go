package live

import (
	"testing"

	"portage/api"
	"portage/asm"
	"portage/base"
	"portage/lift"
	"portage/sample"
	"portage/verify"
)

func reg(n int) api.Opnd { return at(api.AtReg, int64(n)) }

func at(kind int, n int64) api.Opnd { return api.Opnd{Kind: kind, N: n} }

func opnds(l ...api.Opnd) []api.Opnd { return l }

// regs are registers as operands.
func regs(l ...int) []api.Opnd {
	var out []api.Opnd
	for _, n := range l {
		out = append(out, reg(n))
	}
	return out
}

// move is an RMove.
func move(dst int, o api.Opnd) api.RIns {
	return api.RIns{Op: api.RMove, Dst: dst, Args: opnds(o), PC: 3}
}

// pure is an operation that does nothing but write a register.
func pure(dst int, l ...api.Opnd) api.RIns {
	return api.RIns{Op: api.RPure, Code: api.OpEq, Dst: dst, Args: l, PC: 5}
}

// plain is an operation that may trap.
func plain(dst int, l ...api.Opnd) api.RIns {
	return api.RIns{Op: api.RPlain, Code: api.OpAdd, Dst: dst, Args: l, PC: 7, Need: 1}
}

// point asks for some registers.
func point(l ...int) api.RIns {
	return api.RIns{Op: api.RPoint, Dst: -1, PC: 6, Need: 1, Exit: []api.Shape{{Fn: 1, PC: 6, Slots: regs(l...)}}}
}

// jump asks for nothing.
func jump() api.RIns { return api.RIns{Op: api.RJump, Dst: -1, PC: 8} }

// list is a block of some instructions.
func list(l ...api.RIns) api.Block { return api.Block{PC: 4, Ins: l} }

// leads is a block, and the blocks behind it.
func leads(b api.Block, next ...int) api.Block {
	b.Next = next
	return b
}

// code is register code of some blocks.
func code(l ...api.Block) api.Code { return api.Code{Fn: 3, Regs: 9, Blocks: l} }

// parsed is a program out of its text.
func parsed(t testing.TB, text string) api.Program {
	t.Helper()
	p, line, err := asm.Parse(text)
	if err != api.OK {
		t.Fatal(err, "in line", line)
	}
	return p
}

// factsOf are the facts of a program that is verified.
func factsOf(t testing.TB, p api.Program) api.Facts {
	t.Helper()
	f, place, err := verify.Program(p)
	if err != api.OK {
		t.Fatal(err, "at", place)
	}
	return f
}

// lifted is the register code of a function, without any pass.
func lifted(t testing.TB, p api.Program, fn int) api.Code {
	t.Helper()
	c, err := lift.Function(p, factsOf(t, p), fn)
	if err != api.OK {
		t.Fatal(err)
	}
	return c
}

// core is a core over a state, with some input.
func core(t testing.TB, p api.Program, l api.Limits, s api.State) *base.Core {
	t.Helper()
	c, err := base.New(p, l, []string{"in", "x", "12", "", "more"}, s)
	if err != api.OK {
		t.Fatal("a core:", err)
	}
	return c
}

// operands are all operands of an instruction, its Args and the slots of its Exit.
func operands(x api.RIns) []api.Opnd {
	l := append([]api.Opnd(nil), x.Args...)
	for _, s := range x.Exit {
		l = append(l, s.Slots...)
	}
	return l
}

// size is how many instructions there are.
func size(c api.Code) int {
	n := 0
	for _, b := range c.Blocks {
		n += len(b.Ins)
	}
	return n
}

// crowd is register code, right or not, of few registers that are moved about much, in few blocks that lead to one another.
func crowd(r sample.Source) api.Code {
	few := 2 + r.Intn(5)
	c := api.Code{Fn: sample.Edge(r), Regs: sample.Edge(r), Blocks: make([]api.Block, 1+r.Intn(5))}
	for k := range c.Blocks {
		b := &c.Blocks[k]
		b.PC = sample.Edge(r)
		for range r.Intn(3) * r.Intn(8) {
			b.Ins = append(b.Ins, crowded(r, few))
		}
		for range r.Intn(3) {
			b.Next = append(b.Next, r.Intn(len(c.Blocks)))
		}
		if r.Intn(8) == 0 {
			b.Next = append(b.Next, sample.Edge(r), len(c.Blocks), r.Intn(len(c.Blocks)), -1)
		}
	}
	return c
}

// crowded is one of its instructions: mostly a quiet one; now and then one that is odd.
func crowded(r sample.Source, few int) api.RIns {
	some := func(n int) []api.Opnd {
		var l []api.Opnd
		for range n {
			l = append(l, crowdedOpnd(r, few))
		}
		return l
	}
	x := move(r.Intn(few), crowdedOpnd(r, few))
	switch r.Intn(20) {
	case 0, 1, 2, 3, 4:
		x = pure(r.Intn(few), some(1+r.Intn(2))...)
	case 5:
		x = plain(r.Intn(few), some(1)...)
	case 6:
		x = point()
		x.Exit[0].Slots = some(1)
	case 7:
		x = api.RIns{Op: 1 + r.Intn(9), Code: r.Intn(api.Ops), Dst: r.Intn(few+1) - 1, Args: some(r.Intn(3)), N: int64(sample.Edge(r)), Need: sample.Edge(r)}
		for range r.Intn(3) {
			x.Exit = append(x.Exit, api.Shape{Fn: sample.Edge(r), PC: sample.Edge(r), Slots: some(r.Intn(3))})
		}
	case 8:
		x.Args = some(r.Intn(3))
	case 9:
		x.Dst = sample.Edge(r)
	case 10:
		x.Op = sample.Edge(r)
	}
	return x
}

func crowdedOpnd(r sample.Source, few int) api.Opnd {
	switch r.Intn(20) {
	case 0:
		return at(r.Intn(7), int64(r.Intn(few)))
	case 1:
		return at(sample.Edge(r), int64(r.Intn(few)))
	case 2:
		return reg(sample.Edge(r))
	}
	return reg(r.Intn(few))
}
