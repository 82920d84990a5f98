package lift

import (
	"portage/api"
	"portage/code"
	"portage/graph"
	"portage/ops"
)

// shared is what all blocks of a function are built out of.
type shared struct {
	api.Function
	fn      int
	heights []int
	graph   api.Graph
	regs    int
}

// share is what the blocks of a function share; false: there is no such function, or the facts are not those of a verified one.
func share(p api.Program, f api.Facts, fn int) (*shared, bool) {
	if !within(fn, len(p.Funcs)) || fn >= len(f.Heights) || fn >= len(f.Most) {
		return nil, false
	}
	s := &shared{Function: p.Funcs[fn], fn: fn, heights: f.Heights[fn], regs: p.Funcs[fn].Locals + f.Most[fn] + 1}
	g, err := graph.Build(s.Function)
	s.graph = g
	return s, err == api.OK && s.fits()
}

// fits tells whether the code and its heights are such that every register, and every block behind another, can be told.
func (s *shared) fits() bool {
	n := len(s.Code)
	if n > api.MaxCode || len(s.heights) != n || s.Locals < 0 || s.Locals > api.MaxLocals {
		return false
	}
	for pc, i := range s.Code {
		takes, _, ok := code.Effect(i)
		if !ok || s.heights[pc] < takes || s.heights[pc] > api.MaxHeight {
			return false
		}
	}
	return code.Ends(s.Code[n-1].Op)
}

// end is the place behind the last instruction of a block.
func (s *shared) end(k int) int {
	if k+1 < len(s.graph.Starts) {
		return s.graph.Starts[k+1]
	}
	return len(s.Code)
}

// exit is the frame as it is ahead of an instruction.
func (s *shared) exit(pc int) []api.Shape {
	slots := make([]api.Opnd, s.Locals+s.heights[pc])
	for i := range slots {
		slots[i] = register(i)
	}
	return []api.Shape{{Fn: s.fn, PC: pc, Slots: slots}}
}

// block is a block as register code.
func (s *shared) block(k int) api.Block {
	b := builder{shared: s, number: k, start: s.graph.Starts[k]}
	end := s.end(k)
	b.point(api.RPoint, b.start)
	for pc := b.start; pc < end; pc++ {
		b.lift(pc)
	}
	if !parts(s.Code[end-1].Op) {
		b.add(api.RIns{Op: api.RJump, Dst: none, N: 1, PC: end})
		b.next = []int{k + 1}
	}
	setNeeds(b.list, end)
	return api.Block{PC: b.start, Ins: b.list, Next: b.next}
}

// parts tells whether the register code of an operation ends a block by itself.
func parts(op int) bool { return code.Jumps(op) || leaves(op) }

// leaves tells whether an operation is done by the machine alone.
func leaves(op int) bool {
	switch op {
	case api.OpCall, api.OpRet, api.OpThrow, api.OpSpawn, api.OpYield, api.OpSend, api.OpRecv:
		return true
	}
	return false
}

// setNeeds lets each point pay for the instructions up to the next point, or to the end; what a block leaves for is paid by whoever does it.
func setNeeds(l []api.RIns, end int) {
	for k := len(l) - 1; k >= 0; k-- {
		if !Point(l[k].Op) {
			continue
		}
		if l[k].Op != api.RLeave {
			l[k].Need = end - l[k].PC
		}
		end = l[k].PC
	}
}

// known is what an instruction lays upon the stack that takes nothing from it; false: it is none of these.
func known(i api.Instr) (api.Opnd, bool) {
	switch i.Op {
	case api.OpNil:
		return api.Opnd{Kind: api.AtNil}, true
	case api.OpTrue:
		return api.Opnd{Kind: api.AtBool, N: 1}, true
	case api.OpFalse:
		return api.Opnd{Kind: api.AtBool}, true
	case api.OpInt:
		return api.Opnd{Kind: api.AtInt, N: i.A}, true
	case api.OpConst:
		return api.Opnd{Kind: api.AtConst, N: i.A}, true
	case api.OpFunc:
		return api.Opnd{Kind: api.AtFunc, N: i.A}, true
	case api.OpLoad:
		return register(int(i.A)), true
	}
	return api.Opnd{}, false
}

// none is the Dst of what gives no value.
const none = -1

// builder builds one block.
type builder struct {
	*shared
	number, start int
	list          []api.RIns
	next          []int
}

func (b *builder) add(i api.RIns) { b.list = append(b.list, i) }

// point adds a point that does nothing to registers.
func (b *builder) point(op, pc int) {
	b.add(api.RIns{Op: op, Dst: none, PC: pc, Exit: b.exit(pc)})
}

func (b *builder) move(pc, dst int, from api.Opnd) {
	b.add(api.RIns{Op: api.RMove, Dst: dst, Args: []api.Opnd{from}, PC: pc})
}

// lift adds what stands for an instruction.
func (b *builder) lift(pc int) {
	i := b.Code[pc]
	takes, puts, _ := code.Effect(i)
	low := b.Locals + b.heights[pc] - takes
	// What it takes, the lowest first; what it gives is laid where the lowest was.
	read := func(k int) api.Opnd { return register(low + k) }
	if o, ok := known(i); ok {
		b.move(pc, low, o)
		return
	}
	switch {
	case i.Op == api.OpDup:
		b.move(pc, low+1, read(0))
	case i.Op == api.OpStore:
		b.move(pc, int(i.A), read(0))
	case i.Op == api.OpSwap:
		spare := b.regs - 1
		b.move(pc, spare, read(1))
		b.move(pc, low+1, read(0))
		b.move(pc, low, register(spare))
	case plain(i.Op):
		b.operate(pc, low, puts, operands(takes, read))
	case code.Jumps(i.Op):
		b.leap(pc, operands(takes, read))
	case leaves(i.Op):
		b.point(api.RLeave, pc)
	}
}

// operands are the first n of those that read tells.
func operands(n int, read func(k int) api.Opnd) []api.Opnd {
	l := make([]api.Opnd, n)
	for k := range l {
		l[k] = read(k)
	}
	return l
}

// operate adds an operation on values.
func (b *builder) operate(pc, dst, puts int, args []api.Opnd) {
	i := b.Code[pc]
	if ops.Pure(i.Op) {
		b.add(api.RIns{Op: api.RPure, Code: i.Op, Dst: dst, Args: args, PC: pc})
		return
	}
	if puts == 0 {
		dst = none
	}
	b.add(api.RIns{Op: api.RPlain, Code: i.Op, Dst: dst, Args: args, N: i.A, PC: pc, Exit: b.exit(pc)})
}

// leap adds a jump. One that leads back is a safepoint, at which the code must be left as it is there; where the block begins with it, it has a point already.
func (b *builder) leap(pc int, args []api.Opnd) {
	i := b.Code[pc]
	if code.Safe(b.Code, pc) && pc != b.start {
		b.point(api.RPoint, pc)
	}
	to := graph.Block(b.graph, int(i.A))
	if i.Op == api.OpJump {
		b.add(api.RIns{Op: api.RJump, Dst: none, PC: pc})
		b.next = []int{to}
		return
	}
	b.add(api.RIns{Op: api.RBranch, Code: i.Op, Dst: none, Args: args, PC: pc})
	b.next = []int{to, b.number + 1}
}
