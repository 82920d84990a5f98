package code

// The operations, in the order of their numbers, which are those of package api.
const (
	opNop = iota
	opNil
	opTrue
	opFalse
	opInt
	opConst
	opFunc
	opPop
	opDup
	opSwap
	opLoad
	opStore
	opAdd
	opSub
	opMul
	opDiv
	opRem
	opNeg
	opAnd
	opOr
	opXor
	opNot
	opShl
	opShr
	opExt
	opEq
	opNe
	opLt
	opLe
	opTest
	opFlip
	opToInt
	opToReal
	opSingle
	opToText
	opKind
	opFloor
	opSqrt
	opCat
	opCut
	opJump
	opJz
	opJnz
	opCall
	opRet
	opThrow
	opBind
	opArray
	opRecord
	opGet
	opSet
	opPush
	opLen
	opGetf
	opSetf
	opHasf
	opDelf
	opKeys
	opPrint
	opRead
	opSpawn
	opYield
	opChan
	opSend
	opRecv
	opShut
	opBic

	ops // how many there are
)

// known tells whether a number is an operation's. The tables below are asked for no other.
func known(op int) bool { return op >= 0 && op < ops }

// The tables are asked where they are written down, and lie in no variable: a variable would be filled anew by each call.

// nameOf is an operation's name.
func nameOf(op int) string {
	return [ops]string{
		opNop: "nop", opNil: "nil", opTrue: "true", opFalse: "false",
		opInt: "int", opConst: "const", opFunc: "func",
		opPop: "pop", opDup: "dup", opSwap: "swap", opLoad: "load", opStore: "store",
		opAdd: "add", opSub: "sub", opMul: "mul", opDiv: "div", opRem: "rem", opNeg: "neg",
		opAnd: "and", opOr: "or", opXor: "xor", opNot: "not", opShl: "shl", opShr: "shr", opExt: "ext",
		opEq: "eq", opNe: "ne", opLt: "lt", opLe: "le", opTest: "test", opFlip: "flip",
		opToInt: "toint", opToReal: "toreal", opSingle: "single", opToText: "totext",
		opKind: "kind", opFloor: "floor", opSqrt: "sqrt", opCat: "cat", opCut: "cut",
		opJump: "jump", opJz: "jz", opJnz: "jnz",
		opCall: "call", opRet: "ret", opThrow: "throw", opBind: "bind",
		opArray: "array", opRecord: "record", opGet: "get", opSet: "set", opPush: "push", opLen: "len",
		opGetf: "getf", opSetf: "setf", opHasf: "hasf", opDelf: "delf", opKeys: "keys",
		opPrint: "print", opRead: "read", opSpawn: "spawn", opYield: "yield",
		opChan: "chan", opSend: "send", opRecv: "recv", opShut: "shut", opBic: "bic",
	}[op]
}

// shape is the kind of an operation's operand, and how many values it takes and puts; an operand that is a Count is taken besides.
type shape struct {
	operand, takes, puts int
}

// shapeOf is an operation's shape.
func shapeOf(op int) shape {
	return [ops]shape{
		opNop: {Plain, 0, 0}, opNil: {Plain, 0, 1}, opTrue: {Plain, 0, 1}, opFalse: {Plain, 0, 1},
		opInt: {Number, 0, 1}, opConst: {Consts, 0, 1}, opFunc: {Funcs, 0, 1},
		opPop: {Plain, 1, 0}, opDup: {Plain, 1, 2}, opSwap: {Plain, 2, 2},
		opLoad: {Local, 0, 1}, opStore: {Local, 1, 0},
		opAdd: {Plain, 2, 1}, opSub: {Plain, 2, 1}, opMul: {Plain, 2, 1}, opDiv: {Plain, 2, 1}, opRem: {Plain, 2, 1},
		opNeg: {Plain, 1, 1}, opAnd: {Plain, 2, 1}, opOr: {Plain, 2, 1}, opXor: {Plain, 2, 1}, opNot: {Plain, 1, 1},
		opShl: {Plain, 2, 1}, opShr: {Plain, 2, 1}, opExt: {Width, 1, 1},
		opEq: {Plain, 2, 1}, opNe: {Plain, 2, 1}, opLt: {Plain, 2, 1}, opLe: {Plain, 2, 1},
		opTest: {Plain, 1, 1}, opFlip: {Plain, 1, 1},
		opToInt: {Plain, 1, 1}, opToReal: {Plain, 1, 1}, opSingle: {Plain, 1, 1}, opToText: {Plain, 1, 1},
		opKind: {Plain, 1, 1}, opFloor: {Plain, 1, 1}, opSqrt: {Plain, 1, 1},
		opCat: {Plain, 2, 1}, opCut: {Plain, 3, 1},
		opJump: {Place, 0, 0}, opJz: {Place, 1, 0}, opJnz: {Place, 1, 0},
		opCall: {Count, 1, 1}, opRet: {Plain, 1, 0}, opThrow: {Plain, 1, 0}, opBind: {Count, 1, 1},
		opArray: {Count, 0, 1}, opRecord: {Plain, 0, 1},
		opGet: {Plain, 2, 1}, opSet: {Plain, 3, 0}, opPush: {Plain, 2, 0}, opLen: {Plain, 1, 1},
		opGetf: {Consts, 1, 1}, opSetf: {Consts, 2, 0}, opHasf: {Consts, 1, 1}, opDelf: {Consts, 1, 0},
		opKeys: {Plain, 1, 1}, opPrint: {Plain, 1, 0}, opRead: {Plain, 0, 1},
		opSpawn: {Count, 1, 0}, opYield: {Plain, 0, 0},
		opChan: {Room, 0, 1}, opSend: {Plain, 2, 0}, opRecv: {Plain, 1, 1}, opShut: {Plain, 1, 0},
		opBic: {Plain, 2, 1},
	}[op]
}
