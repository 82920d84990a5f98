package copies

import (
	"slices"

	"portage/api"
)

// The chapter's words, one thing after the other, slowly.

// writesTo tells whether an instruction writes a register.
func writesTo(x api.RIns, r int64) bool { return x.Dst != -1 && int64(x.Dst) == r }

// movedInto is what an instruction moves; false: it moves nothing.
func movedInto(x api.RIns) (api.Opnd, bool) {
	if x.Op == api.RMove && len(x.Args) == 1 && x.Dst != -1 {
		return x.Args[0], true
	}
	return api.Opnd{}, false
}

// knownAs is what a register is known as behind a list; false: nothing.
func knownAs(list []api.RIns, r int64) (api.Opnd, bool) {
	last := -1
	for j, x := range list {
		if writesTo(x, r) {
			last = j
		}
	}
	if last < 0 {
		return api.Opnd{}, false
	}
	o, ok := movedInto(list[last])
	if !ok {
		return api.Opnd{}, false
	}
	if o.Kind != api.AtReg {
		return o, true
	}
	if slices.ContainsFunc(list[last+1:], func(x api.RIns) bool { return writesTo(x, o.N) }) {
		return api.Opnd{}, false
	}
	return o, true
}

// meantOpnds are operands as they become behind a list.
func meantOpnds(list []api.RIns, l []api.Opnd) []api.Opnd {
	var out []api.Opnd
	for _, o := range l {
		if from, ok := knownAs(list, o.N); ok && o.Kind == api.AtReg {
			o = from
		}
		out = append(out, o)
	}
	return out
}

// meantBlock is what becomes of a block.
func meantBlock(b api.Block) api.Block {
	out := api.Block{PC: b.PC, Next: b.Next}
	for _, x := range b.Ins {
		n := api.RIns{Op: x.Op, Code: x.Code, Dst: x.Dst, N: x.N, PC: x.PC, Need: x.Need, Args: meantOpnds(out.Ins, x.Args)}
		for _, s := range x.Exit {
			n.Exit = append(n.Exit, api.Shape{Fn: s.Fn, PC: s.PC, Slots: meantOpnds(out.Ins, s.Slots)})
		}
		if o, ok := movedInto(n); ok && o.Kind == api.AtReg && o.N == int64(n.Dst) {
			continue
		}
		out.Ins = append(out.Ins, n)
	}
	return out
}

// meant is Run's answer.
func meant(c api.Code) api.Code {
	out := api.Code{Fn: c.Fn, Regs: c.Regs}
	for _, b := range c.Blocks {
		out.Blocks = append(out.Blocks, meantBlock(b))
	}
	return out
}

// asked is what an instruction that moves nothing asks for, each value by its making.
type asked struct {
	ins    api.RIns // without operands
	values []api.Opnd
}

// made are the values of registers under way. What a register began with is that register; what an instruction made is told by a kind that no operand of the tests has, one for each.
type made map[int64]api.Opnd

func (m made) value(o api.Opnd) api.Opnd {
	if v, ok := m[o.N]; ok && o.Kind == api.AtReg {
		return v
	}
	return o
}

// goes is what the instructions of a block that move nothing ask for, and the values of some registers behind it.
func goes(b api.Block, registers int) ([]asked, []api.Opnd) {
	m := made{}
	var l []asked
	for _, x := range b.Ins {
		if o, ok := movedInto(x); ok {
			m[int64(x.Dst)] = m.value(o)
			continue
		}
		a := asked{ins: api.RIns{Op: x.Op, Code: x.Code, Dst: x.Dst, N: x.N, PC: x.PC, Need: x.Need}}
		for _, o := range operands(x) {
			a.values = append(a.values, m.value(o))
		}
		l = append(l, a)
		if x.Dst != -1 {
			m[int64(x.Dst)] = at(1000+len(l), 0)
		}
	}
	var last []api.Opnd
	for k := range registers {
		last = append(last, m.value(reg(k)))
	}
	return l, last
}

// sameWay tells whether two blocks ask for the same in the same order, and leave the same behind.
func sameWay(a, b api.Block, registers int) bool {
	l, last := goes(a, registers)
	m, end := goes(b, registers)
	return slices.Equal(last, end) && slices.EqualFunc(l, m, func(x, y asked) bool {
		return x.ins.Op == y.ins.Op && x.ins.Code == y.ins.Code && x.ins.Dst == y.ins.Dst && x.ins.N == y.ins.N &&
			x.ins.PC == y.ins.PC && x.ins.Need == y.ins.Need && slices.Equal(x.values, y.values)
	})
}
