// Package model does what the document says in the plainest way, one thing after the other, for the tests of the layers: what they answer is held against it.
package model

import (
	"slices"

	"portage/api"
	"portage/base"
	"portage/code"
	"portage/ops"
)

// going is register code under way.
type going struct {
	core *base.Core
	regs []api.Value
	room int
	stop int
	paid int
}

// Go is how right register code is left that goes from a right frame, at which a block begins, over a core (chapter 19).
func Go(core *base.Core, c api.Code, f api.Frame, room, stop int) api.Left {
	g := going{core: core, regs: make([]api.Value, c.Regs), room: room, stop: stop}
	copy(g.regs, f.Slots)
	k := slices.IndexFunc(c.Blocks, func(b api.Block) bool { return b.PC == f.PC })
	for {
		next, left := g.block(c.Blocks[k])
		if left.Why != 0 {
			return left
		}
		k = next
	}
}

// block does the instructions of a block: which one comes behind it, or how it was left.
func (g *going) block(b api.Block) (int, api.Left) {
	way := 0
	for _, i := range b.Ins {
		switch i.Op {
		case api.RMove:
			g.regs[i.Dst] = g.value(i.Args[0])
		case api.RPure:
			g.regs[i.Dst] = g.pure(i)
		case api.RBranch:
			if ops.Truth(g.value(i.Args[0])) != (i.Code == api.OpJnz) {
				way = 1
			}
		case api.RJump:
		default:
			if why := g.point(i); why != 0 {
				return 0, api.Left{Why: why, Frames: g.frames(i.Exit), Steps: g.paid}
			}
		}
	}
	return b.Next[way], api.Left{}
}

// value is what an operand stands for.
func (g *going) value(o api.Opnd) api.Value {
	switch o.Kind {
	case api.AtReg:
		return g.regs[o.N]
	case api.AtBool:
		return api.Value{Kind: api.Bool, N: o.N}
	case api.AtInt:
		return api.Value{Kind: api.Int, N: o.N}
	case api.AtReal:
		return api.Value{Kind: api.Real, N: o.N}
	case api.AtConst:
		return g.core.Consts()[o.N]
	case api.AtFunc:
		return api.Value{Kind: api.Func, N: o.N}
	}
	return api.Value{}
}

func (g *going) values(l []api.Opnd) []api.Value {
	var out []api.Value
	for _, o := range l {
		out = append(out, g.value(o))
	}
	return out
}

// frames are what shapes stand for.
func (g *going) frames(l []api.Shape) []api.Frame {
	var out []api.Frame
	for _, s := range l {
		out = append(out, api.Frame{Fn: s.Fn, PC: s.PC, Slots: g.values(s.Slots)})
	}
	return out
}

// pure is what a pure instruction gives.
func (g *going) pure(i api.RIns) api.Value {
	args := g.values(i.Args)
	if i.N == 0 {
		v, _, _ := ops.Apply(g.core.World(), api.Instr{Op: i.Code}, args)
		return v
	}
	v, _ := ops.Whole(i.Code, int(i.N), args)
	return v
}

// point is what comes first at a point: why the code is left there; 0: it isn't, and the steps are paid.
func (g *going) point(i api.RIns) int {
	last := i.Exit[len(i.Exit)-1]
	args := g.values(i.Args)
	switch {
	case i.Op == api.RLeave:
		return api.LeftCode
	case g.core.Left() < i.Need:
		return api.LeftFuel
	case Stops(g.core, api.Place{Fn: last.Fn, PC: last.PC}, g.stop):
		return api.LeftStop
	case i.Op == api.RGuard && int64(args[0].Kind) != i.N:
		return api.LeftGuard
	case i.Op == api.RCallee && (args[0] != api.Value{Kind: api.Func, N: i.N} || g.room < 1):
		return api.LeftGuard
	case i.Op == api.RPlain && !g.plain(i, args):
		return api.LeftPlain
	}
	g.core.Pay(i.Need)
	g.paid += i.Need
	return 0
}

// plain does an operation of a core; false: it traps, or has no room.
func (g *going) plain(i api.RIns, args []api.Value) bool {
	v, trap, done := g.core.Do(api.Instr{Op: i.Code, A: i.N}, args)
	if trap != 0 || !done {
		return false
	}
	if i.Dst >= 0 {
		g.regs[i.Dst] = v
	}
	return true
}

// Stops tells whether a place is a safepoint at or behind a stop.
func Stops(core *base.Core, at api.Place, stop int) bool {
	return stop >= 0 && core.Steps() >= stop && code.Safe(core.World().Program.Funcs[at.Fn].Code, at.PC)
}
