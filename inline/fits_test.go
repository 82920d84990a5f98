package inline

import (
	"math"
	"math/rand"
	"slices"
	"testing"

	"portage/api"
	"portage/code"
	"portage/sample"
)

// onward are the names of all operations that may stand ahead of a small function's ret, by the chapters' lists.
func onward() []string {
	return []string{
		"nop", "pop", "nil", "true", "false", "int", "const", "func", "load", "dup", "store", "swap", "print", "read",
		"add", "sub", "mul", "div", "rem", "neg", "and", "or", "xor", "not", "shl", "shr", "ext", "eq", "ne", "lt", "le", "test", "flip",
		"toint", "toreal", "single", "totext", "kind", "floor", "sqrt", "cat", "cut",
		"bind", "array", "record", "get", "set", "push", "len", "getf", "setf", "hasf", "delf", "keys", "chan", "shut", "bic",
	}
}

// alone is a program of one function of this code.
func alone(l ...api.Instr) api.Program {
	return api.Program{Funcs: []api.Function{{Name: "main", Code: l}}}
}

// P20.1: each operation, and what is none, ahead of the ret and in its place; whatever the operand.
func TestFitsOperations(t *testing.T) {
	for op := -2; op < api.Ops+3; op++ {
		name, _ := code.Name(op)
		want := slices.Contains(onward(), name)
		for _, a := range []int64{0, 1, -1, math.MinInt64, math.MaxInt64} {
			for _, l := range [][]api.Instr{
				{ins(op, a), ins(api.OpRet)},
				{ins(api.OpNil), ins(op, a), ins(api.OpNil), ins(api.OpRet, a)},
			} {
				if Fits(alone(l...), 0) != want {
					t.Error(name, op, a, "ahead of ret: it should be", want)
				}
			}
			if Fits(alone(ins(api.OpNil), ins(op, a)), 0) != (op == api.OpRet) {
				t.Error(name, op, "is the last one")
			}
		}
	}
}

// P20.1: how many instructions there may be.
func TestFitsSizes(t *testing.T) {
	for n := range 60 {
		l := slices.Repeat([]api.Instr{ins(api.OpNop)}, n)
		if Fits(alone(l...), 0) {
			t.Error("without a ret:", n)
		}
		if Fits(alone(append(l, ins(api.OpRet))...), 0) != (n+1 <= 24) {
			t.Error("of", n+1)
		}
	}
	l := slices.Repeat([]api.Instr{ins(api.OpNop)}, 1<<20)
	l[1<<20-1].Op = api.OpRet
	if Fits(alone(l...), 0) {
		t.Error("of many")
	}
}

// P20.1: which function, and that it has no handlers; nothing else of it matters.
func TestFitsFunctions(t *testing.T) {
	p := alone(ins(api.OpNil), ins(api.OpRet))
	p.Funcs = append(p.Funcs, api.Function{Name: "guarded", Code: p.Funcs[0].Code, Handlers: make([]api.Handler, 1)})
	p.Funcs = append(p.Funcs, api.Function{Params: -5, Locals: math.MaxInt, Code: p.Funcs[0].Code, Handlers: []api.Handler{}})
	p.Funcs = append(p.Funcs, api.Function{Name: "none"})
	for _, fn := range append(sample.Edges(), 0, 1, 2, 3, 4) {
		if Fits(p, fn) != (fn == 0 || fn == 2) {
			t.Error("function", fn)
		}
	}
	if Fits(api.Program{}, 0) || Fits(api.Program{}, -1) {
		t.Error("no functions")
	}
}

// P20.1: drawn functions, held against the chapter's words.
func TestFitsDrawn(t *testing.T) {
	r := rand.New(rand.NewSource(201))
	met := map[bool]int{}
	for range 3000 {
		p := sample.Caller(r, 12)
		for fn := range p.Funcs {
			f := &p.Funcs[fn]
			if r.Intn(5) == 0 {
				f.Code[r.Intn(len(f.Code))].Op = r.Intn(api.Ops)
			}
			want := small(p, fn)
			met[want]++
			if Fits(p, fn) != want {
				t.Fatal("it should be", want, *f)
			}
		}
	}
	if met[true] < 1000 || met[false] < 1000 {
		t.Error("few of one sort:", met)
	}
}
