package program

import (
	"math/rand"
	"reflect"
	"slices"
	"strconv"
	"strings"

	"portage/api"
	"portage/code"
)

// oneNaN is the bits of the only NaN that a constant has.
const oneNaN = 0x7ff8000000000000

func ins(op int, a int64) api.Instr { return api.Instr{Op: op, A: a} }

func text(s string) api.Const { return api.Const{Kind: api.Text, Text: s} }

func bits(n uint64) api.Const { return api.Const{Kind: api.Real, N: int64(n)} }

// first is the chapter's first example: main, which answers nil.
func first() api.Program {
	return api.Program{Funcs: []api.Function{{Name: "main", Code: []api.Instr{ins(api.OpNil, 0), ins(api.OpRet, 0)}}}}
}

// full has all that a program can have: both kinds of constants, functions with parameters, all kinds of operands, handlers.
func full() api.Program {
	return api.Program{
		Consts: []api.Const{bits(0x3ff8000000000000), text("ab"), text(""), bits(oneNaN)},
		Funcs: []api.Function{
			{Name: "main", Locals: 2, Code: []api.Instr{
				ins(api.OpFunc, 2), ins(api.OpConst, 3), ins(api.OpCall, 1), ins(api.OpStore, 1), ins(api.OpJump, 0)},
				Handlers: []api.Handler{{From: 0, To: 5, Target: 4, Height: 63}, {From: 4, To: 5}}},
			{Name: "f_1", Params: 1, Locals: 3, Code: []api.Instr{ins(api.OpInt, -300), ins(api.OpRet, 0)}},
			{Name: "Z9", Params: 2, Locals: 2, Code: []api.Instr{
				ins(api.OpLoad, 1), ins(api.OpGetf, 1), ins(api.OpExt, 32), ins(api.OpJnz, 4), ins(api.OpRecord, 0), ins(api.OpHasf, 2)},
				Handlers: []api.Handler{{From: 1, To: 2, Target: 5, Height: 1}}},
		},
	}
}

// nops is a function of so many instructions that do nothing.
func nops(name string, n int) api.Function {
	return api.Function{Name: name, Code: make([]api.Instr, n)}
}

// deep is a copy that shares nothing with p.
func deep(p api.Program) api.Program {
	q := api.Program{Consts: slices.Clone(p.Consts), Funcs: slices.Clone(p.Funcs)}
	for k := range q.Funcs {
		q.Funcs[k].Code = slices.Clone(q.Funcs[k].Code)
		q.Funcs[k].Handlers = slices.Clone(q.Funcs[k].Handlers)
	}
	return q
}

// plain is p with nil in the place of every empty list, which mean the same.
func plain(p api.Program) api.Program {
	q := deep(p)
	if len(q.Consts) == 0 {
		q.Consts = nil
	}
	if len(q.Funcs) == 0 {
		q.Funcs = nil
	}
	for k := range q.Funcs {
		if len(q.Funcs[k].Code) == 0 {
			q.Funcs[k].Code = nil
		}
		if len(q.Funcs[k].Handlers) == 0 {
			q.Funcs[k].Handlers = nil
		}
	}
	return q
}

func alike(p, q api.Program) bool { return reflect.DeepEqual(plain(p), plain(q)) }

// someOperand is an operand of a kind that a program has; false: it has none.
func someOperand(r *rand.Rand, p api.Program, k, op int) (int64, bool) {
	below := func(n int) (int64, bool) {
		if n == 0 {
			return 0, false
		}
		return int64(r.Intn(n)), true
	}
	kind, _ := code.Operand(op)
	switch kind {
	case code.Number:
		return int64(r.Uint64()) >> r.Intn(64), true
	case code.Place:
		return below(len(p.Funcs[k].Code))
	case code.Local:
		return below(p.Funcs[k].Locals)
	case code.Consts:
		a, ok := below(len(p.Consts))
		return a, ok && (op == api.OpConst || p.Consts[a].Kind == api.Text)
	case code.Funcs:
		return below(len(p.Funcs))
	case code.Count:
		return below(api.MaxHeight)
	case code.Width:
		return 8 << r.Intn(3), true
	case code.Room:
		return 1 + int64(r.Intn(api.MaxCap)), true
	}
	return 0, true
}

// someConsts are right constants, unlike one another.
func someConsts(r *rand.Rand) []api.Const {
	var l []api.Const
	for i := range r.Intn(5) {
		if r.Intn(2) == 0 {
			l = append(l, text(strings.Repeat("\xff\x00", r.Intn(70))+strconv.Itoa(i)))
		} else {
			l = append(l, bits(uint64(i)<<r.Intn(8)|uint64(r.Intn(2))<<63|8<<r.Intn(40)))
		}
	}
	return slices.CompactFunc(l, func(a, b api.Const) bool { return a == b })
}

// someProgram is a program that may be well-formed: nearly all of them are.
func someProgram(r *rand.Rand) api.Program {
	p := api.Program{Consts: someConsts(r), Funcs: make([]api.Function, 1+r.Intn(4))}
	for k := range p.Funcs {
		f := &p.Funcs[k]
		f.Name = "n" + strings.Repeat("_", r.Intn(3)) + strconv.Itoa(k)
		f.Locals = r.Intn(4)
		if k > 0 {
			f.Params = r.Intn(f.Locals + 1)
		}
		f.Code = make([]api.Instr, 1+r.Intn(8))
		for pc := range f.Code {
			op := r.Intn(api.Ops)
			if a, ok := someOperand(r, p, k, op); ok {
				f.Code[pc] = ins(op, a)
			}
		}
		for range r.Intn(3) {
			from := r.Intn(len(f.Code))
			f.Handlers = append(f.Handlers, api.Handler{From: from, To: from + 1 + r.Intn(len(f.Code)-from), Target: r.Intn(len(f.Code)), Height: r.Intn(api.MaxHeight)})
		}
	}
	return p
}
