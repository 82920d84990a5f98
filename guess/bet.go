package guess

import (
	"slices"

	"portage/api"
	"portage/code"
	"portage/ops"
	"portage/profile"
)

// none is the kind of operands of which no one kind was seen, and the Dst of what gives no value.
const none = -1

// operands are the kinds on which register code bets. Each is a type, so that an operation and its guards, which must speak of the same kind, have it from one place.
type operands interface {
	wholes | reals
	kind() int
}

type wholes struct{}

type reals struct{}

func (wholes) kind() int { return api.Int }

func (reals) kind() int { return api.Real }

// saw tells whether there is an operation on operands of a kind alone, and a spot has seen such operands and no others.
func saw[K operands](op int, s api.Spot) bool {
	var k K
	n, ok := takes(op)
	if !ok {
		return false
	}
	if _, there := ops.Whole(op, k.kind(), slices.Repeat([]api.Value{{Kind: k.kind()}}, n)); !there {
		return false
	}
	bit := uint16(1) << k.kind()
	return s.A == bit && (n < 2 || s.B == bit)
}

// takes is how many values an operation without an operand takes. (Those on numbers of one kind have none.)
func takes(op int) (int, bool) {
	n, _, ok := code.Effect(api.Instr{Op: op})
	return n, ok
}

// bet is the kind of operands on which an instruction is bet; none: it stays as it is.
func bet(x api.RIns, prof api.Profile) int {
	if x.Op != api.RPlain || len(x.Exit) == 0 {
		return none
	}
	if n, ok := takes(x.Code); !ok || n != len(x.Args) {
		return none
	}
	at := x.Exit[len(x.Exit)-1]
	return Kind(x.Code, profile.At(prof, at.Fn, at.PC))
}

// guarded is an instruction that asks of each of its operands whether it is of a kind, and then does the operation without asking. The last guard pays: where an earlier one leaves, no step was made yet.
func guarded[K operands](x api.RIns) []api.RIns {
	var k K
	kind := int64(k.kind())
	l := make([]api.RIns, 0, len(x.Args)+1)
	for _, o := range x.Args {
		l = append(l, api.RIns{Op: api.RGuard, Dst: none, Args: []api.Opnd{o}, N: kind, PC: x.PC, Exit: copied(x.Exit)})
	}
	l[len(l)-1].Need = x.Need
	return append(l, api.RIns{Op: api.RPure, Code: x.Code, Dst: x.Dst, Args: slices.Clone(x.Args), N: kind, PC: x.PC})
}

// copied are shapes in memory of their own.
func copied(l []api.Shape) []api.Shape {
	l = slices.Clone(l)
	for k := range l {
		l[k].Slots = slices.Clone(l[k].Slots)
	}
	return l
}
