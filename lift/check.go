package lift

import (
	"portage/api"
	"portage/code"
	"portage/graph"
	"portage/ops"
	"portage/real"
)

// mostNeed is the greatest Need that a point may have: of two functions' instructions, one in the place of the other's call.
const mostNeed = 2 * api.MaxCode

// checker asks whether register code is right.
type checker struct {
	p api.Program
	f api.Facts
	c api.Code
}

// whole tells whether all of the code is right.
func (k *checker) whole() bool {
	if !within(k.c.Fn, len(k.p.Funcs)) || k.c.Regs < 0 || k.c.Regs > api.MaxRegs {
		return false
	}
	g, err := graph.Build(k.p.Funcs[k.c.Fn])
	if err != api.OK || len(k.c.Blocks) != len(g.Starts) {
		return false
	}
	for n, b := range k.c.Blocks {
		if b.PC != g.Starts[n] || !begins(b) || !k.goesOn(b) || !k.list(b.Ins) || !pays(n, b) {
			return false
		}
	}
	return true
}

// begins tells whether a block begins with a point at which a frame's slots are the registers of their numbers.
func begins(b api.Block) bool {
	if len(b.Ins) == 0 || b.Ins[0].Op != api.RPoint || len(b.Ins[0].Exit) != 1 || b.Ins[0].Exit[0].PC != b.PC {
		return false
	}
	for i, o := range b.Ins[0].Exit[0].Slots {
		if o != register(i) {
			return false
		}
	}
	return true
}

// goesOn tells whether a block ends, and ends nowhere else, with an instruction that has as many blocks behind it as there are.
func (k *checker) goesOn(b api.Block) bool {
	last := len(b.Ins) - 1
	for n, i := range b.Ins {
		if _, ends := ways(i.Op); ends != (n == last) {
			return false
		}
	}
	if n, _ := ways(b.Ins[last].Op); len(b.Next) != n {
		return false
	}
	for _, to := range b.Next {
		if !within(to, len(k.c.Blocks)) {
			return false
		}
	}
	return true
}

// ways is how many blocks may come behind one that ends with an instruction; false: none ends with it.
func ways(op int) (int, bool) {
	switch op {
	case api.RJump:
		return 1, true
	case api.RBranch:
		return 2, true
	case api.RLeave:
		return 0, true
	}
	return 0, false
}

// pays tells whether a block pays a step, if the code may come by it again and again.
func pays(n int, b api.Block) bool {
	for _, to := range b.Next {
		if to <= n && Steps(b) < 1 {
			return false
		}
	}
	return true
}

// list tells whether each instruction is right.
func (k *checker) list(l []api.RIns) bool {
	right := k.reader()
	for _, i := range l {
		n, gives, ok := k.form(i)
		if !ok || len(i.Args) != n || !all(i.Args, right) || !k.given(i.Dst, gives) {
			return false
		}
		if !Point(i.Op) && (i.Need != 0 || len(i.Exit) != 0) || Point(i.Op) && !k.point(i, right) {
			return false
		}
	}
	return true
}

// form is how many operands an instruction has and whether it gives a value; false: it is none that there is.
func (k *checker) form(i api.RIns) (int, bool, bool) {
	switch i.Op {
	case api.RMove:
		return 1, true, i.Code == 0 && i.N == 0
	case api.RPure:
		takes, _, _ := code.Effect(api.Instr{Op: i.Code})
		return takes, true, pure(i.Code, i.N, takes)
	case api.RPlain:
		takes, puts, ok := code.Effect(api.Instr{Op: i.Code, A: i.N})
		return takes, puts > 0, ok && plain(i.Code) && k.keyed(i)
	case api.RGuard:
		return 1, false, i.Code == 0 && api.Nil <= i.N && i.N <= api.Chan
	case api.RCallee:
		return 1, false, i.Code == 0 && 0 <= i.N && i.N < int64(len(k.p.Funcs))
	case api.RPoint, api.RLeave:
		return 0, false, i.Code == 0 && i.N == 0
	case api.RJump:
		return 0, false, i.Code == 0 && (i.N == 0 || i.N == 1)
	case api.RBranch:
		return 1, false, (i.Code == api.OpJz || i.Code == api.OpJnz) && i.N == 0
	}
	return 0, false, false
}

// pure tells whether an operation is the same in every world: of all values, or of those of a kind.
func pure(op int, kind int64, takes int) bool {
	if kind == 0 {
		return ops.Pure(op)
	}
	args := make([]api.Value, takes)
	for n := range args {
		args[n].Kind = int(kind)
	}
	_, ok := ops.Whole(op, int(kind), args)
	return ok
}

// keyed tells whether an operation on a record's field names a text, as its key; others name none.
func (k *checker) keyed(i api.RIns) bool {
	if kind, _ := code.Operand(i.Code); kind != code.Consts {
		return true
	}
	return i.N < int64(len(k.p.Consts)) && k.p.Consts[i.N].Kind == api.Text
}

// given tells whether a Dst is a register where a value is given, and none elsewhere.
func (k *checker) given(dst int, gives bool) bool {
	if gives {
		return within(dst, k.c.Regs)
	}
	return dst == none
}

// point tells whether what a point has besides is right.
func (k *checker) point(i api.RIns, right func(o api.Opnd) bool) bool {
	n := len(i.Exit)
	if i.Need < 0 || i.Need > mostNeed || i.Op == api.RLeave && i.Need != 0 || n < 1 || n > 2 || i.Exit[0].Fn != k.c.Fn {
		return false
	}
	for j, s := range i.Exit {
		slots, ok := k.slots(s, j < n-1)
		if !ok || len(s.Slots) != slots || !all(s.Slots, right) {
			return false
		}
	}
	return true
}

// slots is how many slots a frame has at a shape's place; false: there is no such place, or a frame can't wait there.
func (k *checker) slots(s api.Shape, waits bool) (int, bool) {
	if !within(s.Fn, len(k.p.Funcs)) || !within(s.PC, len(k.p.Funcs[s.Fn].Code)) || !k.high(s) {
		return 0, false
	}
	n := k.p.Funcs[s.Fn].Locals + k.f.Heights[s.Fn][s.PC]
	if !waits {
		return n, true
	}
	i := k.p.Funcs[s.Fn].Code[s.PC]
	takes, _, ok := code.Effect(i)
	return n - takes, ok && i.Op == api.OpCall
}

// high tells whether the facts have a height for a shape's place.
func (k *checker) high(s api.Shape) bool {
	return s.Fn < len(k.f.Heights) && s.PC < len(k.f.Heights[s.Fn])
}

// reader is a function that tells whether an operand is right.
func (k *checker) reader() func(o api.Opnd) bool {
	regs, consts, funcs := int64(k.c.Regs), int64(len(k.p.Consts)), int64(len(k.p.Funcs))
	return func(o api.Opnd) bool {
		switch o.Kind {
		case api.AtReg:
			return 0 <= o.N && o.N < regs
		case api.AtNil:
			return o.N == 0
		case api.AtBool:
			return o.N == 0 || o.N == 1
		case api.AtInt:
			return true
		case api.AtReal:
			return real.Canon(uint64(o.N)) == uint64(o.N)
		case api.AtConst:
			return 0 <= o.N && o.N < consts
		case api.AtFunc:
			return 0 <= o.N && o.N < funcs
		}
		return false
	}
}

// all tells whether all operands of a list are right.
func all(l []api.Opnd, right func(o api.Opnd) bool) bool {
	for _, o := range l {
		if !right(o) {
			return false
		}
	}
	return true
}
