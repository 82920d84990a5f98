package inline

import (
	"slices"

	"portage/api"
	"portage/lift"
)

// none is the Dst of what gives no value.
const none = -1

// code is what stands in the place of the leave.
func (s site) code() []api.RIns {
	l := append(s.enter(), s.body()...)
	payReturn(l)
	l = append(l, s.home()...)
	return append(l, api.RIns{Op: api.RJump, Dst: none, N: 1, PC: s.leave.Exit[0].PC + 1})
}

// frame is the caller's, while it waits.
func (s site) frame() api.Shape {
	at := s.leave.Exit[0]
	at.Slots = at.Slots[:s.waits:s.waits]
	return at
}

// enter asks whether the function is the one that is called, and gives it its locals.
func (s site) enter() []api.RIns {
	at := s.leave.Exit[0]
	given := at.Slots[s.waits:]
	l := []api.RIns{{
		Op: api.RCallee, Dst: none, Args: []api.Opnd{given[0]}, N: int64(s.callee.Fn), PC: at.PC,
		Need: 1 + s.lifted()[0].Need, Exit: s.leave.Exit,
	}}
	// Where the function begins, its frame has its locals alone.
	for i := range s.lifted()[0].Exit[0].Slots {
		from := api.Opnd{Kind: api.AtNil}
		if i+1 < len(given) {
			from = given[i+1]
		}
		l = append(l, move(s.base+i, from, at.PC))
	}
	return l
}

// lifted are the instructions of the function's one block, which begins with a point and ends with the leave at its ret.
func (s site) lifted() []api.RIns { return s.callee.Blocks[0].Ins }

// body is what the function does up to its ret, on its own registers, beside the caller's. What was lifted serves this call alone: its lists are turned where they lie.
func (s site) body() []api.RIns {
	shift := func(o api.Opnd) api.Opnd {
		if o.Kind == api.AtReg {
			o.N += int64(s.base)
		}
		return o
	}
	l := slices.Clone(s.lifted()[1 : len(s.lifted())-1])
	outer := []api.Shape{s.frame()}
	for j := range l {
		i := &l[j]
		if i.Dst != none {
			i.Dst += s.base
		}
		turn(i.Args, shift)
		for k := range i.Exit {
			turn(i.Exit[k].Slots, shift)
		}
		if lift.Point(i.Op) {
			i.Exit = upon(outer, i.Exit)
		}
	}
	return l
}

// home lays the caller's frame and the function's result where the block behind the call asks for them.
func (s site) home() []api.RIns {
	ret := s.lifted()[len(s.lifted())-1]
	var l []api.RIns
	for i, o := range s.frame().Slots {
		if o != register(i) {
			l = append(l, move(i, o, ret.PC))
		}
	}
	top := s.base + len(ret.Exit[0].Slots) - 1
	return append(l, move(s.waits, register(top), ret.PC))
}

// payReturn lets the last point pay for the ret too: no leave is left that would hand it to the machine.
func payReturn(l []api.RIns) {
	for k := len(l) - 1; k >= 0; k-- {
		if lift.Point(l[k].Op) {
			l[k].Need++
			return
		}
	}
}

// upon are shapes of frames that lie upon others, behind these, in memory of their own.
func upon(outer, inner []api.Shape) []api.Shape {
	l := append(outer[:len(outer):len(outer)], inner...)
	for k := range l {
		l[k].Slots = slices.Clone(l[k].Slots)
	}
	return l
}

// turn makes of each operand what a function makes of it.
func turn(l []api.Opnd, to func(o api.Opnd) api.Opnd) {
	for k, o := range l {
		l[k] = to(o)
	}
}

func move(dst int, from api.Opnd, pc int) api.RIns {
	return api.RIns{Op: api.RMove, Dst: dst, Args: []api.Opnd{from}, PC: pc}
}

// register is a register as an operand.
func register(k int) api.Opnd { return api.Opnd{Kind: api.AtReg, N: int64(k)} }

// copied is register code in memory of its own.
func copied(c api.Code) api.Code {
	c.Blocks = slices.Clone(c.Blocks)
	for k := range c.Blocks {
		b := &c.Blocks[k]
		b.Ins, b.Next = slices.Clone(b.Ins), slices.Clone(b.Next)
		for j := range b.Ins {
			i := &b.Ins[j]
			i.Args, i.Exit = slices.Clone(i.Args), upon(nil, i.Exit)
		}
	}
	return c
}
