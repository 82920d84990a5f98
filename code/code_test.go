package code

import (
	"math"
	"strings"
	"testing"

	"portage/api"
)

// noOps are numbers that are no operation's.
func noOps() []int {
	return []int{-1, -2, -66, -67, 67, 68, 128, 255, 256, 256 + 40, 1 << 32, 1<<32 + 44, math.MaxInt, math.MinInt, math.MinInt + 40}
}

// P7.1, P7.2, P7.4: the chapter's table, whole.
func TestTable(t *testing.T) {
	all := rows(t)
	if len(all) != 67 || ops != api.Ops {
		t.Fatal("there are", len(all), api.Ops, ops)
	}
	for _, w := range all {
		if name, ok := Name(w.op); name != w.name || !ok {
			t.Errorf("Name(%d) is %q, %v", w.op, name, ok)
		}
		if op, ok := Find(w.name); op != w.op || !ok {
			t.Errorf("Find(%q) is %d, %v", w.name, op, ok)
		}
		if kind, ok := Operand(w.op); kind != kinds()[w.kind] || !ok {
			t.Errorf("Operand of %s is %d, %v", w.name, kind, ok)
		}
	}
}

// The kinds of operands have the numbers that the chapter gives them.
func TestKindsOfOperands(t *testing.T) {
	for k, kind := range []int{Plain, Number, Place, Local, Consts, Funcs, Count, Width, Room} {
		if kind != k {
			t.Error("kind", k, "is", kind)
		}
	}
}

// The operations are numbered inside as package api numbers them.
func TestNumbersOfOperations(t *testing.T) {
	given := []int{
		api.OpNop, api.OpNil, api.OpTrue, api.OpFalse, api.OpInt, api.OpConst, api.OpFunc, api.OpPop, api.OpDup, api.OpSwap,
		api.OpLoad, api.OpStore, api.OpAdd, api.OpSub, api.OpMul, api.OpDiv, api.OpRem, api.OpNeg, api.OpAnd, api.OpOr,
		api.OpXor, api.OpNot, api.OpShl, api.OpShr, api.OpExt, api.OpEq, api.OpNe, api.OpLt, api.OpLe, api.OpTest,
		api.OpFlip, api.OpToInt, api.OpToReal, api.OpSingle, api.OpToText, api.OpKind, api.OpFloor, api.OpSqrt, api.OpCat, api.OpCut,
		api.OpJump, api.OpJz, api.OpJnz, api.OpCall, api.OpRet, api.OpThrow, api.OpBind, api.OpArray, api.OpRecord, api.OpGet,
		api.OpSet, api.OpPush, api.OpLen, api.OpGetf, api.OpSetf, api.OpHasf, api.OpDelf, api.OpKeys, api.OpPrint, api.OpRead,
		api.OpSpawn, api.OpYield, api.OpChan, api.OpSend, api.OpRecv, api.OpShut, api.OpBic,
	}
	names := strings.Fields(`
		nop nil true false int const func pop dup swap
		load store add sub mul div rem neg and or
		xor not shl shr ext eq ne lt le test
		flip toint toreal single totext kind floor sqrt cat cut
		jump jz jnz call ret throw bind array record get
		set push len getf setf hasf delf keys print read
		spawn yield chan send recv shut bic`)
	inside := []int{
		opNop, opNil, opTrue, opFalse, opInt, opConst, opFunc, opPop, opDup, opSwap,
		opLoad, opStore, opAdd, opSub, opMul, opDiv, opRem, opNeg, opAnd, opOr,
		opXor, opNot, opShl, opShr, opExt, opEq, opNe, opLt, opLe, opTest,
		opFlip, opToInt, opToReal, opSingle, opToText, opKind, opFloor, opSqrt, opCat, opCut,
		opJump, opJz, opJnz, opCall, opRet, opThrow, opBind, opArray, opRecord, opGet,
		opSet, opPush, opLen, opGetf, opSetf, opHasf, opDelf, opKeys, opPrint, opRead,
		opSpawn, opYield, opChan, opSend, opRecv, opShut, opBic,
	}
	if len(given) != 67 || len(names) != 67 || len(inside) != 67 {
		t.Fatal(len(given), len(names), len(inside))
	}
	for k, op := range given {
		if name, _ := Name(op); name != names[k] || inside[k] != op || op != k {
			t.Error("operation", k, "is", op, inside[k], name)
		}
	}
}

// P7.1, P7.2: numbers that are no operation's.
func TestNoOperations(t *testing.T) {
	for _, op := range noOps() {
		if name, ok := Name(op); name != "" || ok {
			t.Errorf("Name(%d) is %q, %v", op, name, ok)
		}
		if kind, ok := Operand(op); kind != 0 || ok {
			t.Errorf("Operand(%d) is %d, %v", op, kind, ok)
		}
		if Ends(op) || Jumps(op) {
			t.Error("Ends or Jumps of", op)
		}
		for _, a := range []int64{0, 1, 8} {
			i := api.Instr{Op: op, A: a}
			if takes, puts, ok := Effect(i); takes != 0 || puts != 0 || ok || Check(i) != api.ErrOp {
				t.Error(i, "is taken:", takes, puts, ok, Check(i))
			}
		}
	}
}

// P7.1: names that no operation has.
func TestNoNames(t *testing.T) {
	none := []string{"", " ", "Jump", "JUMP", "jump ", " jump", "jum", "jumpp", "jump\x00", "jz,", "toInt", "0", "40", "ops", "op", "nop\n", "é"}
	for _, w := range rows(t) {
		none = append(none, w.name+w.name, strings.ToUpper(w.name), w.name+" ")
	}
	for _, name := range none {
		if op, ok := Find(name); op != 0 || ok {
			t.Errorf("Find(%q) is %d, %v", name, op, ok)
		}
	}
}

// P7.2: which operations end, and which jump, at all numbers near theirs.
func TestFlow(t *testing.T) {
	for op := -300; op <= 300; op++ {
		name, _ := Name(op)
		if ends := name == "jump" || name == "ret" || name == "throw"; Ends(op) != ends {
			t.Error("Ends of", op, name)
		}
		if jumps := name == "jump" || name == "jz" || name == "jnz"; Jumps(op) != jumps {
			t.Error("Jumps of", op, name)
		}
	}
}

// P7.3, P7.4: each operation at all operands about the edges.
func TestOperands(t *testing.T) {
	for _, w := range rows(t) {
		for _, a := range operands() {
			i := api.Instr{Op: w.op, A: a}
			takes, puts, ok := Effect(i)
			if !isRight(w.kind, a) {
				if Check(i) != api.ErrOp || takes != 0 || puts != 0 || ok {
					t.Fatal(w.name, a, "is taken:", Check(i), takes, puts, ok)
				}
				continue
			}
			if Check(i) != api.OK || takes != count(t, w.takes, a) || puts != count(t, w.puts, a) || !ok {
				t.Fatal(w.name, a, "is", Check(i), takes, puts, ok)
			}
		}
	}
}

func TestExamples(t *testing.T) {
	for _, c := range []struct {
		i           api.Instr
		takes, puts int
		err         api.Errno
	}{
		{api.Instr{Op: api.OpCall, A: 2}, 3, 1, api.OK},
		{api.Instr{Op: api.OpArray, A: 0}, 0, 1, api.OK},
		{api.Instr{Op: api.OpCall, A: 64}, 0, 0, api.ErrOp},
		{api.Instr{Op: api.OpNop, A: 1}, 0, 0, api.ErrOp},
		{api.Instr{Op: api.OpExt, A: 24}, 0, 0, api.ErrOp},
		{api.Instr{Op: api.OpChan, A: 0}, 0, 0, api.ErrOp},
		{api.Instr{Op: api.OpJump, A: 2000}, 0, 0, api.ErrOp},
	} {
		takes, puts, ok := Effect(c.i)
		if takes != c.takes || puts != c.puts || ok != (c.err == api.OK) || Check(c.i) != c.err {
			t.Error(c.i, takes, puts, ok, Check(c.i))
		}
	}
}
