package base

import (
	"slices"

	"portage/api"
	"portage/code"
	"portage/frames"
	"portage/ops"
)

// nowhere is the place of a fiber that has ended.
var nowhere = api.Place{Fn: -1, PC: -1}

// place is where a fiber stands: at the instruction of its last frame.
func place(f *api.Fiber) api.Place {
	if len(f.Frames) == 0 {
		return nowhere
	}
	top := last(f)
	return api.Place{Fn: top.Fn, PC: top.PC}
}

// last is the last frame of a fiber that has not ended.
func last(f *api.Fiber) *api.Frame { return &f.Frames[len(f.Frames)-1] }

// step is a step under way. A frame's slots are never written over, and nothing is laid into the room behind them: it gets others, since whoever handed the fiber in may have more that lies there.
type step struct {
	core  *Core
	fiber *api.Fiber
	frame *api.Frame // its last one
	instr api.Instr
}

// serve does the instruction, by what serves its kind.
func (s *step) serve() api.Event {
	served := s.operate
	switch s.instr.Op {
	case api.OpNop:
		served = s.rest
	case api.OpNil, api.OpTrue, api.OpFalse, api.OpInt, api.OpConst, api.OpFunc:
		served = s.known
	case api.OpPop, api.OpDup, api.OpSwap:
		served = s.arrange
	case api.OpLoad, api.OpStore:
		served = s.local
	case api.OpJump, api.OpJz, api.OpJnz:
		served = s.jump
	case api.OpCall:
		served = s.call
	case api.OpRet:
		served = s.ret
	case api.OpThrow:
		served = s.throw
	case api.OpSpawn, api.OpYield, api.OpSend, api.OpRecv:
		served = s.ask
	}
	return served()
}

// upmost are the n upmost values, the upmost last.
func (s *step) upmost(n int) []api.Value {
	return s.frame.Slots[len(s.frame.Slots)-n:]
}

// give takes the n upmost values off, lays others upon the stack, and goes on at the next instruction.
func (s *step) give(n int, l ...api.Value) api.Event {
	return s.goOn(s.frame.PC+1, n, l...)
}

// goOn takes the n upmost values off, lays others upon the stack, and goes on at a place of the function.
func (s *step) goOn(pc, n int, l ...api.Value) api.Event {
	kept := s.frame.Slots[:len(s.frame.Slots)-n]
	if len(l) > 0 {
		kept = slices.Concat(kept, l)
	}
	s.frame.Slots, s.frame.PC = kept, pc
	return api.Event{}
}

// trap throws a trap's text.
func (s *step) trap(trap int) api.Event {
	e := s.thrown(s.core.TrapText(trap))
	e.Trap = trap
	return e
}

// thrown throws a value.
func (s *step) thrown(v api.Value) api.Event {
	if s.core.Throw(s.fiber, v) {
		return api.Event{}
	}
	return api.Event{Kind: api.EvThrown, Value: v}
}

// operate does what works on values alone, and print and read.
func (s *step) operate() api.Event {
	takes, puts, _ := code.Effect(s.instr)
	v, trap, room := s.core.Do(s.instr, s.upmost(takes))
	switch {
	case !room:
		return api.Event{Kind: api.EvHeap}
	case trap != 0:
		return s.trap(trap)
	case puts == 0:
		return s.give(takes)
	}
	return s.give(takes, v)
}

func (s *step) rest() api.Event { return s.give(0) }

// known lays a value upon the stack that stands in the program.
func (s *step) known() api.Event {
	a := s.instr.A
	switch s.instr.Op {
	case api.OpTrue:
		return s.give(0, api.Value{Kind: api.Bool, N: 1})
	case api.OpFalse:
		return s.give(0, api.Value{Kind: api.Bool})
	case api.OpInt:
		return s.give(0, api.Value{Kind: api.Int, N: a})
	case api.OpConst:
		return s.give(0, s.core.consts[a])
	case api.OpFunc:
		return s.give(0, api.Value{Kind: api.Func, N: a})
	}
	return s.give(0, api.Value{})
}

// arrange does what only moves values about on the stack.
func (s *step) arrange() api.Event {
	switch s.instr.Op {
	case api.OpDup:
		return s.give(0, s.upmost(1)...)
	case api.OpSwap:
		l := s.upmost(2)
		return s.give(2, l[1], l[0])
	}
	return s.give(1)
}

// local moves a value from a local, or to it.
func (s *step) local() api.Event {
	a := s.instr.A
	if s.instr.Op == api.OpLoad {
		return s.give(0, s.frame.Slots[a])
	}
	v := s.upmost(1)[0]
	s.frame.Slots = slices.Clone(s.frame.Slots)
	s.frame.Slots[a] = v
	return s.give(1)
}

// jump goes on elsewhere, always or where the upmost value says so.
func (s *step) jump() api.Event {
	to := int(s.instr.A)
	if s.instr.Op == api.OpJump {
		return s.goOn(to, 0)
	}
	if ops.Truth(s.upmost(1)[0]) == (s.instr.Op == api.OpJnz) {
		return s.goOn(to, 1)
	}
	return s.give(1)
}

// call lays the frame of the function that is called upon the one that waits for it.
func (s *step) call() api.Event {
	n := int(s.instr.A)
	l := s.upmost(n + 1)
	w := &s.core.world
	fn, bound, trap := frames.Callee(w.Program, w.Heap, l[0], n)
	switch {
	case trap != 0:
		return s.trap(trap)
	case len(s.fiber.Frames) >= api.MaxFrames:
		return s.trap(api.TrapDeep)
	}
	callee, _ := frames.Enter(w.Program, fn, slices.Concat(bound, l[1:])) // Callee has found as many values as it has parameters
	e := s.goOn(s.frame.PC, n+1)
	s.fiber.Frames = slices.Concat(s.fiber.Frames, []api.Frame{callee})
	return e
}

// ret gives a value back to the frame that waits for it, if there is one.
func (s *step) ret() api.Event {
	v := s.upmost(1)[0]
	l := s.fiber.Frames
	below := max(len(l)-2, 0)
	// Of the two last frames alone, so that those beneath them are left where they lie.
	left, _ := frames.Return(s.core.world.Program, l[below:], v)
	s.fiber.Frames = append(l[:below], left...)
	if place(s.fiber) == nowhere {
		return api.Event{Kind: api.EvEnded, Value: v}
	}
	return api.Event{}
}

// throw throws the upmost value.
func (s *step) throw() api.Event { return s.thrown(s.upmost(1)[0]) }

// ask leaves the instruction to who knows the other fibers.
func (s *step) ask() api.Event { return api.Event{Kind: api.EvAsk} }
