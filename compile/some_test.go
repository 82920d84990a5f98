package compile

import (
	"math/rand"
	"slices"
	"testing"

	"portage/api"
	"portage/asm"
	"portage/base"
	"portage/lift"
	"portage/sample"
	"portage/verify"
)

// parsed is a program out of its text.
func parsed(t testing.TB, text string) api.Program {
	t.Helper()
	p, line, err := asm.Parse(text)
	if err != api.OK {
		t.Fatal(err, "in line", line)
	}
	return p
}

// factsOf are the facts of a program that is verified.
func factsOf(t testing.TB, p api.Program) api.Facts {
	t.Helper()
	f, place, err := verify.Program(p)
	if err != api.OK {
		t.Fatal(err, "at", place)
	}
	return f
}

// lifted is the register code of a function, without any pass.
func lifted(t testing.TB, p api.Program, fn int) api.Code {
	t.Helper()
	c, err := lift.Function(p, factsOf(t, p), fn)
	if err != api.OK {
		t.Fatal(err)
	}
	return c
}

// compiled is the register code of a function behind some passes.
func compiled(t testing.TB, p api.Program, fn int, prof api.Profile, passes int) api.Code {
	t.Helper()
	c, err := Function(p, factsOf(t, p), fn, prof, passes)
	if err != api.OK {
		t.Fatal(err, "of", fn, passes)
	}
	return c
}

// core is a core over a state, with some input.
func core(t testing.TB, p api.Program, l api.Limits, s api.State) *base.Core {
	t.Helper()
	c, err := base.New(p, l, []string{"in", "x", "12", "", "more"}, s)
	if err != api.OK {
		t.Fatal("a core:", err)
	}
	return c
}

// example is the program of chapter 19's example, and a profile that has seen whole numbers alone at f's add and lt.
func example(t testing.TB) (api.Program, api.Profile) {
	p := parsed(t, "func main 0 0\nfunc f\nint -2\ncall 1\nret\nfunc f 1 1\nagain:\nint 1\nload 0\nadd\nstore 0\nload 0\nint 0\nlt\njnz again\nnil\nret")
	prof := api.Profile{Funcs: [][]api.Spot{make([]api.Spot, 4), make([]api.Spot, 10)}}
	for _, pc := range []int{2, 6} {
		prof.Funcs[1][pc] = api.Spot{Count: 100, A: 1 << api.Int, B: 1 << api.Int}
	}
	return p, prof
}

// everywhere is a profile that says the same of every place.
func everywhere(p api.Program, s api.Spot) api.Profile {
	var f api.Profile
	for _, fn := range p.Funcs {
		f.Funcs = append(f.Funcs, slices.Repeat([]api.Spot{s}, len(fn.Code)))
	}
	return f
}

// betting is a profile of a program that mostly bets on whole numbers.
func betting(r *rand.Rand, p api.Program) api.Profile {
	f := sample.Profile(r, p)
	for _, l := range f.Funcs {
		for pc := range l {
			if r.Intn(3) > 0 {
				l[pc].A, l[pc].B = 1<<api.Int, 1<<api.Int
			}
		}
	}
	return f
}

// drawProfile is any profile: much of it true, or of the program's size and false, of another program, of other sizes, or of none.
func drawProfile(r *rand.Rand, p api.Program) api.Profile {
	switch r.Intn(10) {
	case 0:
		return api.Profile{}
	case 1:
		return sample.Profile(r, sample.Caller(r, 30))
	case 2:
		return everywhere(p, api.Spot{A: uint16(r.Intn(1 << 16)), B: uint16(r.Intn(1 << 16)), Count: int64(sample.Edge(r)), Callee: r.Intn(len(p.Funcs) + 2)})
	case 3:
		f := betting(r, p)
		f.Funcs = append(f.Funcs[:r.Intn(len(f.Funcs))], make([]api.Spot, 3))
		return f
	case 4, 5:
		return sample.Profile(r, p)
	}
	return betting(r, p)
}

// drawPasses are any passes, all of them more often than others.
func drawPasses(r *rand.Rand) int {
	if r.Intn(3) == 0 {
		return api.AllPasses
	}
	return r.Intn(api.AllPasses + 1)
}

// faults are numbers that ask for no passes.
func faults() []int {
	return slices.DeleteFunc(append(sample.Edges(), 31, 32, 33, 63, -32), func(n int) bool { return n >= 0 && n <= 31 })
}

// size is how many instructions there are.
func size(c api.Code) int {
	n := 0
	for _, b := range c.Blocks {
		n += len(b.Ins)
	}
	return n
}
