package fold

import (
	"slices"

	"portage/api"
	"portage/heap"
	"portage/intern"
	"portage/lift"
	"portage/ops"
)

// The chapter's words, one thing after the other, slowly.

// isReal tells whether an operand is a constant that is a real.
func isReal(p api.Program, o api.Opnd) bool {
	return o.Kind == api.AtConst && p.Consts[o.N].Kind == api.Real
}

// knownValue is what a known value is; false: it is none.
func knownValue(p api.Program, o api.Opnd) (api.Value, bool) {
	if isReal(p, o) {
		return api.Value{Kind: api.Real, N: p.Consts[o.N].N}, true
	}
	kind, ok := map[int]int{api.AtNil: api.Nil, api.AtBool: api.Bool, api.AtInt: api.Int, api.AtReal: api.Real, api.AtFunc: api.Func}[o.Kind]
	return api.Value{Kind: kind, N: o.N}, ok
}

// knownValues are what known values are; false: one of them is none.
func knownValues(p api.Program, l []api.Opnd) ([]api.Value, bool) {
	var out []api.Value
	for _, o := range l {
		if v, ok := knownValue(p, o); ok {
			out = append(out, v)
		}
	}
	return out, len(out) == len(l)
}

// operandOf is the operand of a value; false: its kind has none.
func operandOf(v api.Value) (api.Opnd, bool) {
	kind, ok := map[int]int{api.Nil: api.AtNil, api.Bool: api.AtBool, api.Int: api.AtInt, api.Real: api.AtReal, api.Func: api.AtFunc}[v.Kind]
	return api.Opnd{Kind: kind, N: v.N}, ok
}

// kindsSeen are the kinds that are known of registers.
type kindsSeen map[int64]int

// kindOf is the known kind of an operand; false: there is none.
func (m kindsSeen) kindOf(p api.Program, o api.Opnd) (int, bool) {
	if v, ok := knownValue(p, o); ok {
		return v.Kind, true
	}
	if o.Kind == api.AtConst {
		return api.Text, true
	}
	kind, ok := m[o.N]
	return kind, ok
}

// tableOf is the chapter's table, but for its rows of operands of known kinds.
func tableOf() map[int][]int {
	return map[int][]int{
		api.Int:   {api.OpAnd, api.OpOr, api.OpXor, api.OpBic, api.OpNot, api.OpShl, api.OpShr, api.OpExt, api.OpRem, api.OpToInt, api.OpLen},
		api.Real:  {api.OpToReal, api.OpSingle, api.OpFloor, api.OpSqrt},
		api.Text:  {api.OpToText, api.OpKind, api.OpCat, api.OpCut},
		api.Bool:  {api.OpEq, api.OpNe, api.OpLt, api.OpLe, api.OpTest, api.OpFlip, api.OpHasf},
		api.Bound: {api.OpBind}, api.Array: {api.OpArray, api.OpKeys}, api.Record: {api.OpRecord}, api.Chan: {api.OpChan},
	}
}

// plainKind is the kind of what an operation gives; false: nothing is known of it.
func (m kindsSeen) plainKind(p api.Program, x api.RIns) (int, bool) {
	for kind, l := range tableOf() {
		if slices.Contains(l, x.Code) {
			return kind, true
		}
	}
	var l []int
	for _, o := range x.Args {
		if kind, ok := m.kindOf(p, o); ok {
			l = append(l, kind)
		}
	}
	number := func(kind int) bool { return kind == api.Int || kind == api.Real }
	switch x.Code {
	case api.OpAdd, api.OpSub, api.OpMul, api.OpDiv:
		switch {
		case len(l) < 2:
		case l[0] == api.Int && l[1] == api.Int:
			return api.Int, true
		case number(l[0]) && number(l[1]):
			return api.Real, true
		}
	case api.OpNeg:
		if len(l) == 1 && number(l[0]) {
			return l[0], true
		}
	}
	return 0, false
}

// knownBehind is what is known of registers behind a list.
func knownBehind(p api.Program, list []api.RIns) kindsSeen {
	m := kindsSeen{}
	for _, x := range list {
		kind, ok, r := 0, false, int64(x.Dst)
		switch x.Op {
		case api.RMove:
			kind, ok = m.kindOf(p, x.Args[0])
		case api.RPure:
			kind, ok = int(x.N), true
			if x.N == 0 || x.Code == api.OpLt || x.Code == api.OpLe {
				kind = api.Bool
			}
		case api.RPlain:
			kind, ok = m.plainKind(p, x)
		case api.RGuard, api.RCallee:
			if x.Args[0].Kind != api.AtReg {
				continue
			}
			kind, ok, r = int(x.N), true, x.Args[0].N
			if x.Op == api.RCallee {
				kind = api.Func
			}
		default:
			continue
		}
		delete(m, r)
		if ok {
			m[r] = kind
		}
	}
	return m
}

// workedOut is the operand of what an instruction gives of known values; false: the instruction stays.
func workedOut(p api.Program, x api.RIns) (api.Opnd, bool) {
	args, ok := knownValues(p, x.Args)
	w := &ops.World{Program: p, Heap: heap.New(0, 0), Texts: intern.New[string]()}
	switch {
	case !ok:
	case x.Op == api.RPure && x.N != 0:
		v, _ := ops.Whole(x.Code, int(x.N), args)
		return operandOf(v)
	case x.Op == api.RPure:
		v, _, _ := ops.Apply(w, api.Instr{Op: x.Code}, args)
		return operandOf(v)
	case x.Op == api.RPlain && ops.Applies(x.Code) && x.Dst >= 0:
		v, trap, room := ops.Apply(w, api.Instr{Op: x.Code, A: x.N}, args)
		if trap == 0 && room {
			return operandOf(v)
		}
	}
	return api.Opnd{}, false
}

// What becomes of an instruction.
const (
	asItWas  = 0
	moved    = 1
	takenOut = 2
	left     = 3
	jumped   = 4
)

// fate is what becomes of an instruction behind a list; of a branch: the way that it goes.
func fate(p api.Program, list []api.RIns, x api.RIns) (int, int) {
	if _, ok := workedOut(p, x); ok {
		return moved, 0
	}
	if x.Op != api.RGuard && x.Op != api.RCallee && x.Op != api.RBranch {
		return asItWas, 0
	}
	v, value := knownValue(p, x.Args[0])
	kind, ok := knownBehind(p, list).kindOf(p, x.Args[0])
	switch {
	case x.Op == api.RGuard && ok && int64(kind) == x.N:
		return takenOut, 0
	case x.Op == api.RGuard && ok:
		return left, 0
	case x.Op == api.RCallee && value && (v.Kind != api.Func || v.N != x.N):
		return left, 0
	case x.Op == api.RCallee && ok && kind != api.Func:
		return left, 0
	case x.Op == api.RBranch && (value || ok && kind != api.Bool):
		isTrue := ok && kind != api.Nil
		if value {
			isTrue = ops.Truth(v)
		}
		if isTrue == (x.Code == api.OpJz) {
			return jumped, 1
		}
		return jumped, 0
	}
	return asItWas, 0
}

// meantBlock is what becomes of a block.
func meantBlock(p api.Program, b api.Block) api.Block {
	out := api.Block{PC: b.PC, Next: b.Next}
	pay := func(need int) {
		for k := len(out.Ins) - 1; k >= 0; k-- {
			if lift.Point(out.Ins[k].Op) {
				out.Ins[k].Need += need
				return
			}
		}
	}
	for _, x := range b.Ins {
		switch what, way := fate(p, out.Ins, x); what {
		case asItWas:
			out.Ins = append(out.Ins, x)
		case moved:
			o, _ := workedOut(p, x)
			pay(x.Need)
			out.Ins = append(out.Ins, api.RIns{Op: api.RMove, Dst: x.Dst, Args: opnds(o), PC: x.PC})
		case takenOut:
			pay(x.Need)
		case left:
			out.Ins = append(out.Ins, api.RIns{Op: api.RLeave, Dst: -1, PC: x.PC, Exit: x.Exit})
			out.Next = nil
			return out
		case jumped:
			out.Ins = append(out.Ins, api.RIns{Op: api.RJump, Dst: -1, PC: x.PC})
			out.Next = []int{b.Next[way]}
		}
	}
	return out
}

// meant is Run's answer, of right register code.
func meant(p api.Program, c api.Code) api.Code {
	out := api.Code{Fn: c.Fn, Regs: c.Regs}
	for _, b := range c.Blocks {
		out.Blocks = append(out.Blocks, meantBlock(p, b))
	}
	return out
}
