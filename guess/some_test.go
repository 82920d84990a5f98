package guess

import (
	"testing"

	"portage/api"
	"portage/asm"
	"portage/base"
	"portage/lift"
	"portage/verify"
)

func reg(n int) api.Opnd { return at(api.AtReg, int64(n)) }

func at(kind int, n int64) api.Opnd { return api.Opnd{Kind: kind, N: n} }

func opnds(l ...api.Opnd) []api.Opnd { return l }

// upTo are the registers from a number on, n of them.
func upTo(from, n int) []api.Opnd {
	var out []api.Opnd
	for k := range n {
		out = append(out, reg(from+k))
	}
	return out
}

func val(kind int, n int64) api.Value { return api.Value{Kind: kind, N: n} }

func whole(n int64) api.Value { return val(api.Int, n) }

// parsed is a program out of its text.
func parsed(t testing.TB, text string) api.Program {
	t.Helper()
	p, line, err := asm.Parse(text)
	if err != api.OK {
		t.Fatal(err, "in line", line)
	}
	return p
}

// factsOf are the facts of a program that is verified.
func factsOf(t testing.TB, p api.Program) api.Facts {
	t.Helper()
	f, place, err := verify.Program(p)
	if err != api.OK {
		t.Fatal(err, "at", place)
	}
	return f
}

// lifted is the register code of a function, without any pass.
func lifted(t testing.TB, p api.Program, fn int) api.Code {
	t.Helper()
	c, err := lift.Function(p, factsOf(t, p), fn)
	if err != api.OK {
		t.Fatal(err)
	}
	return c
}

// seen is a profile in which one spot is not zero.
func seen(fn, pc int, s api.Spot) api.Profile {
	f := api.Profile{Funcs: make([][]api.Spot, fn+1)}
	f.Funcs[fn] = make([]api.Spot, pc+1)
	f.Funcs[fn][pc] = s
	return f
}

// alone is register code of one block that holds one instruction.
func alone(x api.RIns) api.Code {
	return api.Code{Fn: 3, Regs: 9, Blocks: []api.Block{{PC: 4, Ins: []api.RIns{x}, Next: []int{5, 6}}}}
}

// sum is an add of register 1 and 5, at 2 of function 0, as the chapter's example has it.
func sum() api.RIns {
	return api.RIns{
		Op: api.RPlain, Code: api.OpAdd, Dst: 1, Args: opnds(reg(1), at(api.AtInt, 5)), PC: 2, Need: 4,
		Exit: []api.Shape{{PC: 2, Slots: opnds(reg(0), reg(1), at(api.AtInt, 5))}},
	}
}

// bets is how many instructions were replaced.
func bets(before, after api.Code) int {
	n := 0
	for k := range before.Blocks {
		n += plains(before.Blocks[k]) - plains(after.Blocks[k])
	}
	return n
}

func plains(b api.Block) int {
	n := 0
	for _, x := range b.Ins {
		if x.Op == api.RPlain {
			n++
		}
	}
	return n
}

// core is a core over a state, with some input.
func core(t testing.TB, p api.Program, l api.Limits, s api.State) *base.Core {
	t.Helper()
	c, err := base.New(p, l, []string{"in", "x", "12", "", "more"}, s)
	if err != api.OK {
		t.Fatal("a core:", err)
	}
	return c
}
