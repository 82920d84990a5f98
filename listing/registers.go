package listing

import (
	"portage/api"
	"portage/code"
	"portage/decimal"
	"portage/real"
)

// addBlock puts down the block of a number.
func (t *text) addBlock(k int, b api.Block) {
	words := []string{"block", number(k), number(b.PC)}
	for _, n := range b.Next {
		words = append(words, number(n))
	}
	t.add(line(words...))
	for _, i := range b.Ins {
		t.add(inside, line(insWords(i)...))
	}
}

// insWords are the words of an instruction of register code.
func insWords(i api.RIns) []string {
	words := []string{
		what(i.Op), operation(i.Code), number(i.Dst), decimal.Int(i.N), number(i.PC), number(i.Need), ":",
	}
	words = addOpnds(words, i.Args)
	for _, s := range i.Exit {
		words = append(words, "|", number(s.Fn), number(s.PC))
		words = addOpnds(words, s.Slots)
	}
	return words
}

// what is the word of what an instruction of register code is.
func what(op int) string {
	switch op {
	case api.RMove:
		return "move"
	case api.RPure:
		return "pure"
	case api.RPlain:
		return "plain"
	case api.RGuard:
		return "guard"
	case api.RCallee:
		return "callee"
	case api.RPoint:
		return "point"
	case api.RJump:
		return "jump"
	case api.RBranch:
		return "branch"
	case api.RLeave:
		return "leave"
	}
	return "op" + number(op)
}

// operation is the word of an operation, and of what is none.
func operation(op int) string {
	if name, ok := code.Name(op); ok {
		return name
	}
	return number(op)
}

// addOpnds are words with those of operands behind them.
func addOpnds(words []string, l []api.Opnd) []string {
	for _, o := range l {
		words = append(words, opnd(o))
	}
	return words
}

// opnd is the word of an operand.
func opnd(o api.Opnd) string {
	switch o.Kind {
	case api.AtReg:
		return "r" + decimal.Int(o.N)
	case api.AtConst:
		return "c" + decimal.Int(o.N)
	case api.AtFunc:
		return "f" + decimal.Int(o.N)
	case api.AtInt:
		return decimal.Int(o.N)
	}
	if word, ok := known(o); ok {
		return word
	}
	return number(o.Kind) + ":" + decimal.Int(o.N)
}

// known is the word of an operand that is nil, a bool or a real; false: its number is none that this kind has.
func known(o api.Opnd) (string, bool) {
	switch o {
	case api.Opnd{Kind: api.AtNil}:
		return "nil", true
	case api.Opnd{Kind: api.AtBool}:
		return "false", true
	case api.Opnd{Kind: api.AtBool, N: 1}:
		return "true", true
	}
	// Every NaN has the same text: only one of them may be told by it.
	bits := uint64(o.N)
	if o.Kind == api.AtReal && real.Canon(bits) == bits {
		return decimal.Real(bits), true
	}
	return "", false
}
