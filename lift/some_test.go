package lift

import (
	"testing"

	"portage/api"
	"portage/asm"
	"portage/base"
	"portage/sample"
	"portage/verify"
)

func reg(n int) api.Opnd { return at(api.AtReg, int64(n)) }

func at(kind int, n int64) api.Opnd { return api.Opnd{Kind: kind, N: n} }

func opnds(l ...api.Opnd) []api.Opnd { return l }

// regs are the registers of these numbers.
func regs(l ...int) []api.Opnd {
	var out []api.Opnd
	for _, n := range l {
		out = append(out, reg(n))
	}
	return out
}

// upTo are the registers from 0 up to but not n.
func upTo(n int) []api.Opnd {
	var out []api.Opnd
	for k := range n {
		out = append(out, reg(k))
	}
	return out
}

func val(kind int, n int64) api.Value { return api.Value{Kind: kind, N: n} }

func whole(n int64) api.Value { return val(api.Int, n) }

func ins(op int, a ...int64) api.Instr {
	if len(a) > 0 {
		return api.Instr{Op: op, A: a[0]}
	}
	return api.Instr{Op: op}
}

// alone is a program of main alone.
func alone(locals int, l ...api.Instr) api.Program {
	return api.Program{Consts: sample.Consts(), Funcs: []api.Function{{Name: "main", Locals: locals, Code: l}}}
}

// parsed is a program out of its text.
func parsed(t testing.TB, text string) api.Program {
	t.Helper()
	p, line, err := asm.Parse(text)
	if err != api.OK {
		t.Fatal(err, "in line", line)
	}
	return p
}

// factsOf are the facts of a program that is verified.
func factsOf(t testing.TB, p api.Program) api.Facts {
	t.Helper()
	f, place, err := verify.Program(p)
	if err != api.OK {
		t.Fatal(err, "at", place)
	}
	return f
}

// lifted is the register code of a function.
func lifted(t testing.TB, p api.Program, fn int) api.Code {
	t.Helper()
	c, err := Function(p, factsOf(t, p), fn)
	if err != api.OK {
		t.Fatal(err)
	}
	return c
}

// example is the program of the chapter's example: function 1 is f.
func example(t testing.TB) api.Program {
	return parsed(t, "func main 0 0\nnil\nret\nfunc f 1 1\nagain:\nint 1\nload 0\nadd\nstore 0\nload 0\nint 0\nlt\njnz again\nnil\nret")
}

// core is a core over a state, with some input.
func core(t testing.TB, p api.Program, l api.Limits, s api.State) *base.Core {
	t.Helper()
	c, err := base.New(p, l, []string{"in", "x", "12", "", "more"}, s)
	if err != api.OK {
		t.Fatal("a core:", err)
	}
	return c
}
