package fold

import (
	"portage/api"
	"portage/ops"
)

// nothing is the Op of what stands in the place of an instruction that is taken out.
const nothing = 0

// rule is what is done with the instructions of one Op.
type rule struct {
	turn  func(f *folder, x api.RIns) (api.RIns, bool) // what stands in the place of one; false: it stays
	learn func(f *folder, x api.RIns)                  // puts down what is known behind one that stands in the answer
}

// ruleOf is an Op's rule.
func ruleOf(op int) rule {
	switch op {
	case api.RMove:
		return rule{(*folder).stays, (*folder).learnMove}
	case api.RPure:
		return rule{(*folder).pure, (*folder).learnPure}
	case api.RPlain:
		return rule{(*folder).plain, (*folder).learnPlain}
	case api.RGuard:
		return rule{(*folder).guard, (*folder).learnGuard}
	case api.RCallee:
		return rule{(*folder).callee, (*folder).learnCallee}
	case api.RBranch:
		return rule{(*folder).branch, (*folder).learnNothing}
	}
	return rule{(*folder).stays, (*folder).learnNothing}
}

func (f *folder) stays(x api.RIns) (api.RIns, bool) { return api.RIns{}, false }

// pure works out an operation that is done in every world.
func (f *folder) pure(x api.RIns) (api.RIns, bool) {
	args, ok := f.values(x.Args)
	if !ok {
		return api.RIns{}, false
	}
	if x.N == 0 {
		return f.applied(x, 0, args)
	}
	v, _ := ops.Whole(x.Code, int(x.N), args)
	return moves(x, v)
}

// plain works out an operation that, of these values, is done in every world.
func (f *folder) plain(x api.RIns) (api.RIns, bool) {
	args, ok := f.values(x.Args)
	if !ok || x.Dst == none {
		return api.RIns{}, false
	}
	return f.applied(x, x.N, args)
}

// applied is an instruction, whose operation has the operand a, worked out; false: that cannot be done ahead.
func (f *folder) applied(x api.RIns, a int64, args []api.Value) (api.RIns, bool) {
	v, trap, room := ops.Apply(f.world, api.Instr{Op: x.Code, A: a}, args)
	if trap != 0 || !room {
		return api.RIns{}, false
	}
	return moves(x, v)
}

// moves is what stands in the place of an instruction that gives a known value; false: no operand says the value.
func moves(x api.RIns, v api.Value) (api.RIns, bool) {
	o, ok := operand(v)
	if !ok {
		return api.RIns{}, false
	}
	return api.RIns{Op: api.RMove, Dst: x.Dst, Args: []api.Opnd{o}, PC: x.PC}, true
}

// guard tells ahead whether a value is of a kind.
func (f *folder) guard(x api.RIns) (api.RIns, bool) {
	switch kind := f.kind(only(x.Args)); {
	case kind == none:
		return api.RIns{}, false
	case int64(kind) == x.N:
		return api.RIns{Op: nothing}, true
	}
	return leaves(x), true
}

// callee tells ahead that a value isn't the function that is called. That it is one still asks whether there is room for its frame.
func (f *folder) callee(x api.RIns) (api.RIns, bool) {
	o := only(x.Args)
	v, is := f.value(o)
	kind := f.kind(o)
	if is && v != (api.Value{Kind: api.Func, N: x.N}) || kind != none && kind != api.Func {
		return leaves(x), true
	}
	return api.RIns{}, false
}

// leaves is what stands in the place of a guard that always fails.
func leaves(x api.RIns) api.RIns {
	return api.RIns{Op: api.RLeave, Dst: none, PC: x.PC, Exit: x.Exit}
}

// branch tells ahead where the code goes on, and leads there alone.
func (f *folder) branch(x api.RIns) (api.RIns, bool) {
	truth, ok := f.truth(only(x.Args))
	if !ok || len(f.next) != 2 {
		return api.RIns{}, false
	}
	way := 1
	if truth == (x.Code == api.OpJnz) {
		way = 0
	}
	f.next = []int{f.next[way]}
	return api.RIns{Op: api.RJump, Dst: none, PC: x.PC}, true
}

func (f *folder) learnNothing(x api.RIns) {}

func (f *folder) learnMove(x api.RIns) { f.known.put(x.Dst, f.kind(only(x.Args))) }

func (f *folder) learnPure(x api.RIns) {
	switch {
	case x.N == 0, x.Code == api.OpLt, x.Code == api.OpLe:
		f.known.put(x.Dst, api.Bool)
	default:
		f.known.put(x.Dst, int(x.N))
	}
}

func (f *folder) learnPlain(x api.RIns) { f.known.put(x.Dst, f.given(x)) }

func (f *folder) learnGuard(x api.RIns) { f.learnKind(only(x.Args), int(x.N)) }

func (f *folder) learnCallee(x api.RIns) { f.learnKind(only(x.Args), api.Func) }

// learnKind learns the kind of an operand, if that is a register.
func (f *folder) learnKind(o api.Opnd, kind int) {
	if o.Kind == api.AtReg {
		f.known.put(int(o.N), kind)
	}
}
