package inline

import (
	"cmp"
	"slices"

	"portage/api"
	"portage/code"
	"portage/lift"
	"portage/profile"
)

// finder finds the calls that are replaced, in the register code of a function.
type finder struct {
	p    api.Program
	f    api.Facts
	c    api.Code
	prof api.Profile
	base int // how many registers the function has when it is lifted
}

// newFinder is false for code that can't be that of a function of a verified program.
func newFinder(p api.Program, f api.Facts, c api.Code, prof api.Profile) (finder, bool) {
	if c.Fn < 0 || c.Fn >= len(p.Funcs) || len(c.Blocks) > api.MaxCode {
		return finder{}, false
	}
	base, ok := registers(p, f, c.Fn)
	return finder{p: p, f: f, c: c, prof: prof, base: base}, ok
}

// site is a call that is replaced.
type site struct {
	leave  api.RIns // at the call
	waits  int      // how many slots the caller's frame keeps while it waits
	callee api.Code // the function that takes the call's place, lifted
	base   int      // what is added to the numbers of its registers
	next   int      // the block behind the call
}

// site is the call with which a block ends; false: it ends otherwise, or the call stays.
func (d finder) site(b api.Block) (site, bool) {
	leave, n, ok := d.call(b)
	if !ok {
		return site{}, false
	}
	at := leave.Exit[0]
	callee, fits := d.callee(at.PC, n)
	next, there := d.block(at.PC + 1)
	if !fits || !there || d.base+callee.Regs > api.MaxRegs {
		return site{}, false
	}
	s := site{leave: leave, waits: len(at.Slots) - n - 1, callee: callee, base: d.base, next: next}
	return s, laysHome(s.frame().Slots)
}

// call is the leave with which a block ends, and how many values the call takes at which it leaves; false: it leaves at none, or doesn't.
func (d finder) call(b api.Block) (api.RIns, int, bool) {
	if len(b.Ins) == 0 {
		return api.RIns{}, 0, false
	}
	leave, l := b.Ins[len(b.Ins)-1], d.p.Funcs[d.c.Fn].Code
	if leave.Op != api.RLeave || len(leave.Exit) != 1 {
		return api.RIns{}, 0, false
	}
	at := leave.Exit[0]
	if at.PC < 0 || at.PC >= len(l) || l[at.PC].Op != api.OpCall {
		return api.RIns{}, 0, false
	}
	takes, _, ok := code.Effect(l[at.PC])
	return leave, takes - 1, ok && takes <= len(at.Slots) && len(at.Slots) < d.base
}

// callee is the one small function that was seen called at a place, with so many values, as register code.
func (d finder) callee(pc, n int) (api.Code, bool) {
	k := profile.At(d.prof, d.c.Fn, pc).Callee - 1
	if !Fits(d.p, k) || d.p.Funcs[k].Params != n {
		return api.Code{}, false
	}
	if _, ok := registers(d.p, d.f, k); !ok {
		return api.Code{}, false
	}
	c, err := lift.Function(d.p, d.f, k)
	return c, err == api.OK
}

// block is the number of the block that begins at a place. They lie in the order of their places.
func (d finder) block(pc int) (int, bool) {
	return slices.BinarySearchFunc(d.c.Blocks, pc, func(b api.Block, pc int) int { return cmp.Compare(b.PC, pc) })
}

// registers is how many a function has when it is lifted; false: that can't be told, as it is none of a verified program.
func registers(p api.Program, f api.Facts, fn int) (int, bool) {
	if fn >= len(f.Most) {
		return 0, false
	}
	locals, most := p.Funcs[fn].Locals, f.Most[fn]
	if locals < 0 || locals > api.MaxLocals || most < 0 || most > api.MaxHeight {
		return 0, false
	}
	return locals + most + 1, true
}

// laysHome tells whether the slots of a frame can be moved one by one into the registers of their numbers: what is still to be read from one of these must lie in one that stays.
func laysHome(slots []api.Opnd) bool {
	for _, o := range slots {
		if o.Kind == api.AtReg && 0 <= o.N && o.N < int64(len(slots)) && slots[o.N] != o {
			return false
		}
	}
	return true
}
