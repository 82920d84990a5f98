package machine

import (
	"slices"

	"portage/api"
	"portage/base"
	"portage/code"
	"portage/frames"
)

// fibers are all fibers of a machine, over the core that they share. The core lies here and not in the machine itself, where its name would stand against that of a method.
type fibers struct {
	*base.Core
	list    []api.Fiber
	current int
}

// top is the last frame of a fiber that has not ended.
func (f *fibers) top(fiber int) *api.Frame {
	l := f.list[fiber].Frames
	return &l[len(l)-1]
}

// next is the instruction at which a fiber stands that has not ended.
func (f *fibers) next(fiber int) api.Instr {
	t := f.top(fiber)
	return f.World().Program.Funcs[t.Fn].Code[t.PC]
}

// step makes one step of the current fiber, which can run.
func (f *fibers) step() api.Event {
	e := f.Core.Step(&f.list[f.current])
	if e.Kind == api.EvAsk {
		return f.serve(f.next(f.current))
	}
	return e
}

// serve makes the step that the core leaves to who knows all fibers; it has found that one is left.
func (f *fibers) serve(i api.Instr) api.Event {
	t := f.top(f.current)
	takes, puts, _ := code.Effect(i)
	kept := len(t.Slots) - takes
	v, trap, room := f.among(i, t.Slots[kept:])
	if !room {
		return api.Event{Kind: api.EvHeap}
	}
	f.Pay(1)
	if trap != 0 {
		return f.trapped(trap)
	}
	t.Slots, t.PC = slices.Concat(t.Slots[:kept], []api.Value{v}[:puts]), t.PC+1
	return api.Event{}
}

// trapped throws a trap's text in the current fiber.
func (f *fibers) trapped(trap int) api.Event {
	v := f.TrapText(trap)
	if f.Throw(&f.list[f.current], v) {
		return api.Event{Trap: trap}
	}
	return api.Event{Kind: api.EvThrown, Trap: trap, Value: v}
}

// among does an operation on fibers and channels to the values that it takes: what it gives, a trap; false: no room.
func (f *fibers) among(i api.Instr, args []api.Value) (api.Value, int, bool) {
	h := f.World().Heap
	switch i.Op {
	case api.OpSpawn:
		trap, room := f.spawn(args[0], args[1:])
		return api.Value{}, trap, room
	case api.OpSend:
		_, trap := h.Send(args[0], args[1]) // a fiber that runs is not blocked: there is room in the channel
		return api.Value{}, trap, true
	case api.OpRecv:
		v, _, trap := h.Recv(args[0])
		return v, trap, true
	}
	return api.Value{}, 0, true
}

// spawn lays a fiber behind the others that begins with a call.
func (f *fibers) spawn(callee api.Value, args []api.Value) (int, bool) {
	w := f.World()
	fn, bound, trap := frames.Callee(w.Program, w.Heap, callee, len(args))
	switch {
	case trap != 0:
		return trap, true
	case len(f.list) >= api.MaxFibers:
		return api.TrapFibers, true
	case !w.Heap.Spend(8):
		return 0, false
	}
	first, _ := frames.Enter(w.Program, fn, slices.Concat(bound, args)) // Callee has found as many values as it has parameters
	f.list = append(f.list, api.Fiber{Frames: []api.Frame{first}})
	return 0, true
}

// turn makes the next fiber that can run the current one: they are gone round from the one behind it on; false: none can.
func (f *fibers) turn() bool {
	next := f.current
round:
	for {
		next = (next + 1) % len(f.list)
		switch {
		case f.canRun(next):
			f.current = next
			return true
		case next == f.current: // itself is the last that is asked
			break round
		}
	}
	return false
}

// canRun tells whether a fiber has not ended and does not wait for a channel.
func (f *fibers) canRun(fiber int) bool {
	if len(f.list[fiber].Frames) == 0 {
		return false
	}
	slots := f.top(fiber).Slots
	switch f.next(fiber).Op {
	case api.OpSend:
		c, ok := f.channel(slots[len(slots)-2])
		return !ok || c.Shut || len(c.Items) < c.Cap
	case api.OpRecv:
		c, ok := f.channel(slots[len(slots)-1])
		return !ok || c.Shut || len(c.Items) > 0
	}
	return true
}

// channel is the channel that a right value names; false: it is none.
func (f *fibers) channel(v api.Value) (api.Object, bool) {
	if v.Kind != api.Chan {
		return api.Object{}, false
	}
	return f.World().Heap.Object(int(v.N))
}
