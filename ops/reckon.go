package ops

import "portage/api"

// A table of functions lies at no package's level: each is made where it is asked, and holds functions alone, so that this stays cheap.

// ofTwo is what an operation does to two numbers; nil: it does nothing to two.
func ofTwo(op int) func(a, b number) api.Value {
	return [api.Ops]func(a, b number) api.Value{
		api.OpAdd: number.add, api.OpSub: number.sub, api.OpMul: number.mul, api.OpDiv: number.div, api.OpRem: number.rem,
		api.OpAnd: number.and, api.OpOr: number.or, api.OpXor: number.xor, api.OpBic: number.bic,
		api.OpShl: number.shl, api.OpShr: number.shr,
		api.OpLt: number.lt, api.OpLe: number.le,
	}[op]
}

// ofOne is what an operation does to one number; nil: it does nothing to one.
func ofOne(op int) func(a number) api.Value {
	return [api.Ops]func(a number) api.Value{
		api.OpNeg: number.neg, api.OpNot: number.not,
		api.OpFloor: number.floor, api.OpSqrt: number.sqrt, api.OpSingle: number.single,
	}[op]
}

// ofWidth is what ext does to a number, by how many bits are left of it.
func ofWidth(width int64) func(a number) api.Value {
	return [...]func(a number) api.Value{8: number.ext8, 16: number.ext16, 32: number.ext32}[width]
}

// reckon does an operation on numbers: what it gives, or a trap. The values are as many as it takes.
func reckon(i api.Instr, args []api.Value) (api.Value, int) {
	if trap := trapOf(i.Op, args); trap != 0 {
		return api.Value{}, trap
	}
	a := number(args[0])
	switch {
	case i.Op == api.OpExt:
		return ofWidth(i.A)(a), 0
	case len(args) == 1:
		return ofOne(i.Op)(a), 0
	}
	return ofTwo(i.Op)(a, number(args[1])), 0
}

// trapOf is the trap of an operation on numbers; 0: it has none of these values.
func trapOf(op int, args []api.Value) int {
	for _, v := range args {
		if !isNumber(v) || onInts(op) && !isInt(v) {
			return api.TrapType
		}
	}
	switch op {
	case api.OpDiv, api.OpRem:
		if isInt(args[0]) && isInt(args[1]) && args[1].N == 0 {
			return api.TrapDivide
		}
	case api.OpShl, api.OpShr:
		if args[1].N < 0 {
			return api.TrapRange
		}
	}
	return 0
}

// onInts tells whether an operation on numbers takes whole numbers alone.
func onInts(op int) bool {
	switch op {
	case api.OpRem, api.OpAnd, api.OpOr, api.OpXor, api.OpBic, api.OpNot, api.OpShl, api.OpShr, api.OpExt:
		return true
	}
	return false
}

// isWhole tells whether Whole does an operation on numbers that all are of a kind.
func isWhole(op, kind int) bool {
	switch op {
	case api.OpAdd, api.OpSub, api.OpMul, api.OpLt, api.OpLe, api.OpNeg:
		return kind == api.Int || kind == api.Real
	case api.OpAnd, api.OpOr, api.OpXor, api.OpBic, api.OpNot:
		return kind == api.Int
	case api.OpDiv, api.OpSqrt, api.OpFloor, api.OpSingle:
		return kind == api.Real
	}
	return false
}
