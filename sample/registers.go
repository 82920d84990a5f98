package sample

import (
	"slices"

	"portage/api"
	"portage/code"
	"portage/ops"
)

// drawer draws what stands in right register code.
type drawer struct {
	Source
	p api.Program
	f api.Facts
	c *api.Code
}

// opnd is a right operand.
func (d *drawer) opnd() api.Opnd {
	switch d.Intn(12) {
	case 0:
		return api.Opnd{Kind: api.AtNil}
	case 1:
		return api.Opnd{Kind: api.AtBool, N: int64(d.Intn(2))}
	case 2:
		return api.Opnd{Kind: api.AtInt, N: int64(Edge(d))}
	case 3:
		return api.Opnd{Kind: api.AtReal, N: someReal(d)}
	case 4:
		return api.Opnd{Kind: api.AtConst, N: int64(d.Intn(len(d.p.Consts)))}
	case 5:
		return api.Opnd{Kind: api.AtFunc, N: int64(d.Intn(len(d.p.Funcs)))}
	}
	return api.Opnd{N: int64(d.Intn(d.c.Regs))}
}

func (d *drawer) opnds(n int) []api.Opnd {
	var l []api.Opnd
	for range n {
		l = append(l, d.opnd())
	}
	return l
}

// waits is a place of the code's function at which a frame can wait; false: there is none.
func (d *drawer) waits() (int, bool) {
	var l []int
	for pc, i := range d.p.Funcs[d.c.Fn].Code {
		if i.Op == api.OpCall {
			l = append(l, pc)
		}
	}
	if len(l) == 0 {
		return 0, false
	}
	return one(d, l...), true
}

// shape is a right shape at a place, of so many slots fewer than a frame that goes on there has.
func (d *drawer) shape(fn, pc, fewer int) api.Shape {
	return api.Shape{Fn: fn, PC: pc, Slots: d.opnds(d.p.Funcs[fn].Locals + d.f.Heights[fn][pc] - fewer)}
}

// exit are right shapes, of one frame or of two.
func (d *drawer) exit() []api.Shape {
	fn := d.c.Fn
	var l []api.Shape
	if pc, ok := d.waits(); ok && d.Intn(2) == 0 {
		l = append(l, d.shape(fn, pc, int(d.p.Funcs[fn].Code[pc].A)+1))
		fn = d.Intn(len(d.p.Funcs))
	}
	return append(l, d.shape(fn, d.Intn(len(d.p.Funcs[fn].Code)), 0))
}

// need is how much a point may need; mostly little, so that the code goes on for long.
func (d *drawer) need() int {
	if d.Intn(12) == 0 {
		return one(d, 0, 1, 50, 2*api.MaxCode)
	}
	return d.Intn(3)
}

// isPoint tells whether an instruction is a point. (Layer 19 is not asked: its own tests draw here.)
func isPoint(op int) bool {
	switch op {
	case api.RPlain, api.RGuard, api.RCallee, api.RPoint, api.RLeave:
		return true
	}
	return false
}

// pays tells whether a block needs a step.
func pays(b api.Block) bool {
	return slices.ContainsFunc(b.Ins, func(i api.RIns) bool { return i.Need > 0 })
}

// ins is any right instruction that ends no block.
func (d *drawer) ins() api.RIns {
	i := api.RIns{Op: one(d, api.RMove, api.RPure, api.RPlain, api.RGuard, api.RCallee, api.RPoint), Dst: -1, PC: Edge(d)}
	switch i.Op {
	case api.RMove:
		i.Dst, i.Args = d.Intn(d.c.Regs), d.opnds(1)
	case api.RPure:
		d.pure(&i)
	case api.RPlain:
		d.plain(&i)
	case api.RGuard:
		i.N, i.Args = int64(d.Intn(10)), d.opnds(1)
		if d.Intn(3) > 0 {
			i.N, i.Args = api.Int, []api.Opnd{{Kind: api.AtInt, N: 3}}
		}
	case api.RCallee:
		i.N, i.Args = int64(d.Intn(len(d.p.Funcs))), d.opnds(1)
		if d.Intn(3) > 0 {
			i.Args = []api.Opnd{{Kind: api.AtFunc, N: i.N}}
		}
	}
	if isPoint(i.Op) {
		i.Exit, i.Need = d.exit(), d.need()
	}
	return i
}

// pure gives an instruction an operation that is the same in every world.
func (d *drawer) pure(i *api.RIns) {
	i.Dst = d.Intn(d.c.Regs)
	for {
		i.Code, i.N = d.Intn(api.Ops), one[int64](d, 0, api.Int, api.Real)
		takes, _, _ := code.Effect(ins(i.Code))
		_, whole := ops.Whole(i.Code, int(i.N), slices.Repeat([]api.Value{{Kind: int(i.N)}}, takes))
		if whole || i.N == 0 && ops.Pure(i.Code) {
			i.Args = d.opnds(takes)
			return
		}
	}
}

// plain gives an instruction an operation that a core does.
func (d *drawer) plain(i *api.RIns) {
	w := writer{Source: d}
	for {
		op := operation(d)
		a, ok := w.operand(op)
		if !ok || !ops.Applies(op) && op != api.OpPrint && op != api.OpRead {
			continue
		}
		takes, puts, _ := code.Effect(ins(op, a))
		i.Code, i.N, i.Args = op, a, d.opnds(takes)
		if puts > 0 {
			i.Dst = d.Intn(d.c.Regs)
		}
		return
	}
}

// end gives a block another end, and other blocks behind it.
func (d *drawer) end(b *api.Block) {
	last := api.RIns{Op: one(d, api.RJump, api.RBranch, api.RLeave), Dst: -1, PC: Edge(d)}
	n := len(d.c.Blocks)
	switch last.Op {
	case api.RJump:
		last.N, b.Next = int64(d.Intn(2)), []int{d.Intn(n)}
	case api.RBranch:
		last.Code, last.Args, b.Next = one(d, api.OpJz, api.OpJnz), d.opnds(1), []int{d.Intn(n), d.Intn(n)}
	case api.RLeave:
		last.Exit, b.Next = d.exit(), nil
	}
	b.Ins[len(b.Ins)-1] = last
}

// block lays other instructions among those of a block, and in their place.
func (d *drawer) block(k int) {
	b := &d.c.Blocks[k]
	for j := 1; j < len(b.Ins)-1; j++ {
		switch d.Intn(6) {
		case 0:
			b.Ins[j] = d.ins()
		case 1:
			b.Ins = slices.Insert(b.Ins, j, d.ins())
		}
	}
	if d.Intn(3) == 0 {
		d.end(b)
	}
	for j := range b.Ins {
		if i := &b.Ins[j]; isPoint(i.Op) && i.Op != api.RLeave && d.Intn(4) == 0 {
			i.Need = d.need()
		}
	}
	if len(b.Next) > 0 && slices.Min(b.Next) <= k && !pays(*b) {
		b.Ins[0].Need = 1
	}
}

// Code is right register code of a verified program, out of other such code: with all sorts of instructions, other ends of blocks and more registers, whatever it may mean.
func Code(r Source, p api.Program, f api.Facts, c api.Code) api.Code {
	c = Copied(c)
	d := drawer{r, p, f, &c}
	if r.Intn(3) > 0 {
		c.Regs = min(c.Regs+r.Intn(9), api.MaxRegs)
	}
	for k := range c.Blocks {
		d.block(k)
	}
	return c
}

// Copied is register code in memory of its own.
func Copied(c api.Code) api.Code {
	c.Blocks = slices.Clone(c.Blocks)
	for k := range c.Blocks {
		b := &c.Blocks[k]
		b.Next, b.Ins = slices.Clone(b.Next), slices.Clone(b.Ins)
		for j := range b.Ins {
			i := &b.Ins[j]
			i.Args, i.Exit = slices.Clone(i.Args), slices.Clone(i.Exit)
			for s := range i.Exit {
				i.Exit[s].Slots = slices.Clone(i.Exit[s].Slots)
			}
		}
	}
	return c
}

// Same tells whether two pieces of register code are alike in everything, where no list and an empty one are alike.
func Same(a, b api.Code) bool {
	return a.Fn == b.Fn && a.Regs == b.Regs && slices.EqualFunc(a.Blocks, b.Blocks, SameBlock)
}

// SameBlock is the same of blocks.
func SameBlock(a, b api.Block) bool {
	return a.PC == b.PC && slices.Equal(a.Next, b.Next) && slices.EqualFunc(a.Ins, b.Ins, SameIns)
}

// SameIns is the same of instructions.
func SameIns(a, b api.RIns) bool {
	return a.Op == b.Op && a.Code == b.Code && a.Dst == b.Dst && a.N == b.N && a.PC == b.PC && a.Need == b.Need &&
		slices.Equal(a.Args, b.Args) && slices.EqualFunc(a.Exit, b.Exit, sameShape)
}

func sameShape(a, b api.Shape) bool {
	return a.Fn == b.Fn && a.PC == b.PC && slices.Equal(a.Slots, b.Slots)
}
