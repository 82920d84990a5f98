package inline

import (
	"testing"

	"portage/api"
	"portage/asm"
	"portage/base"
	"portage/lift"
	"portage/verify"
)

func reg(n int) api.Opnd { return at(api.AtReg, int64(n)) }

func at(kind int, n int64) api.Opnd { return api.Opnd{Kind: kind, N: n} }

func opnds(l ...api.Opnd) []api.Opnd { return l }

// upTo are the registers from a number on, n of them.
func upTo(from, n int) []api.Opnd {
	var out []api.Opnd
	for k := range n {
		out = append(out, reg(from+k))
	}
	return out
}

func val(kind int, n int64) api.Value { return api.Value{Kind: kind, N: n} }

func whole(n int64) api.Value { return val(api.Int, n) }

func ins(op int, a ...int64) api.Instr {
	i := api.Instr{Op: op}
	for _, n := range a {
		i.A = n
	}
	return i
}

// parsed is a program out of its text.
func parsed(t testing.TB, text string) api.Program {
	t.Helper()
	p, line, err := asm.Parse(text)
	if err != api.OK {
		t.Fatal(err, "in line", line)
	}
	return p
}

// factsOf are the facts of a program that is verified.
func factsOf(t testing.TB, p api.Program) api.Facts {
	t.Helper()
	f, place, err := verify.Program(p)
	if err != api.OK {
		t.Fatal(err, "at", place)
	}
	return f
}

// lifted is the register code of a function, without any pass.
func lifted(t testing.TB, p api.Program, fn int) api.Code {
	t.Helper()
	c, err := lift.Function(p, factsOf(t, p), fn)
	if err != api.OK {
		t.Fatal(err)
	}
	return c
}

// toward is a profile in which one call alone was seen, with this number of Callee.
func toward(p api.Program, fn, pc, callee int) api.Profile {
	var f api.Profile
	for _, x := range p.Funcs {
		f.Funcs = append(f.Funcs, make([]api.Spot, len(x.Code)))
	}
	f.Funcs[fn][pc].Callee = callee
	return f
}

// example is the program of the chapter's example: main calls f, function 1, at 2.
func example(t testing.TB) api.Program {
	return parsed(t, "func main 0 0\nfunc f\nint 5\ncall 1\nret\nfunc f 1 1\nload 0\nload 0\nmul\nret")
}

// replaced are the blocks in which a call was replaced.
func replaced(before, after api.Code) []int {
	var l []int
	for k := range before.Blocks {
		if len(before.Blocks[k].Ins) != len(after.Blocks[k].Ins) {
			l = append(l, k)
		}
	}
	return l
}

// core is a core over a state, with some input.
func core(t testing.TB, p api.Program, l api.Limits, s api.State) *base.Core {
	t.Helper()
	c, err := base.New(p, l, []string{"in", "x", "12", "", "more"}, s)
	if err != api.OK {
		t.Fatal("a core:", err)
	}
	return c
}
