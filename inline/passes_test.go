package inline

import (
	"maps"
	"slices"

	"portage/api"
	"portage/lift"
	"portage/ops"
	"portage/profile"
	"portage/sample"
)

// The other passes (chapters 21 to 24) in a plain form, whole or in part, as Run comes behind them too.

// guessed bets on the kinds that a profile has seen.
func guessed(c api.Code, prof api.Profile) api.Code {
	c = sample.Copied(c)
	for k := range c.Blocks {
		var l []api.RIns
		for _, i := range c.Blocks[k].Ins {
			kind, ok := bet(i, prof)
			if !ok {
				l = append(l, i)
				continue
			}
			for j, o := range i.Args {
				g := api.RIns{Op: api.RGuard, Dst: -1, Args: opnds(o), N: int64(kind), PC: i.PC, Exit: i.Exit}
				if j == len(i.Args)-1 {
					g.Need = i.Need
				}
				l = append(l, g)
			}
			l = append(l, api.RIns{Op: api.RPure, Code: i.Code, Dst: i.Dst, Args: i.Args, N: int64(kind), PC: i.PC})
		}
		c.Blocks[k].Ins = l
	}
	return sample.Copied(c)
}

// bet is the kind on which an operation is bet; false: none.
func bet(i api.RIns, prof api.Profile) (int, bool) {
	if i.Op != api.RPlain {
		return 0, false
	}
	last := i.Exit[len(i.Exit)-1]
	s := profile.At(prof, last.Fn, last.PC)
	for _, kind := range []int{api.Int, api.Real} {
		_, there := ops.Whole(i.Code, kind, slices.Repeat([]api.Value{{Kind: kind}}, len(i.Args)))
		if there && s.A == 1<<kind && (len(i.Args) < 2 || s.B == 1<<kind) {
			return kind, true
		}
	}
	return 0, false
}

// carried asks for what was moved at its source.
func carried(c api.Code) api.Code {
	c = sample.Copied(c)
	for k := range c.Blocks {
		var l []api.RIns
		for _, i := range c.Blocks[k].Ins {
			source(l, i.Args)
			for _, s := range i.Exit {
				source(l, s.Slots)
			}
			if i.Op != api.RMove || i.Args[0] != reg(i.Dst) {
				l = append(l, i)
			}
		}
		c.Blocks[k].Ins = l
	}
	return c
}

// source puts in the place of registers what they are known as behind a list.
func source(list []api.RIns, l []api.Opnd) {
	for k, o := range l {
		if from, ok := knownAs(list, o); ok {
			l[k] = from
		}
	}
}

func knownAs(list []api.RIns, o api.Opnd) (api.Opnd, bool) {
	for j := len(list) - 1; j >= 0 && o.Kind == api.AtReg; j-- {
		if list[j].Dst != int(o.N) {
			continue
		}
		if list[j].Op != api.RMove {
			return o, false
		}
		from := list[j].Args[0]
		written := slices.ContainsFunc(list[j+1:], func(i api.RIns) bool { return from == reg(i.Dst) })
		return from, !written
	}
	return o, false
}

// settled works out guards, callees and branches of values that are known.
func settled(c api.Code) api.Code {
	c = sample.Copied(c)
	for k := range c.Blocks {
		b := &c.Blocks[k]
		list := b.Ins
		b.Ins = nil
		for _, i := range list {
			if !settle(b, i) {
				break
			}
		}
	}
	return c
}

// settle lays what becomes of an instruction behind a block; false: nothing behind it stays.
func settle(b *api.Block, i api.RIns) bool {
	known := map[int]int64{api.AtNil: api.Nil, api.AtBool: api.Bool, api.AtInt: api.Int, api.AtReal: api.Real, api.AtFunc: api.Func}
	is := false
	var o api.Opnd
	var kind int64
	if len(i.Args) > 0 {
		o = i.Args[0]
		kind, is = known[o.Kind]
	}
	switch {
	case is && i.Op == api.RGuard && kind == i.N:
		for j := len(b.Ins) - 1; ; j-- {
			if lift.Point(b.Ins[j].Op) {
				b.Ins[j].Need += i.Need
				return true
			}
		}
	case is && i.Op == api.RGuard, is && i.Op == api.RCallee && o != at(api.AtFunc, i.N):
		b.Ins = append(b.Ins, api.RIns{Op: api.RLeave, Dst: -1, PC: i.PC, Exit: i.Exit})
		b.Next = nil
		return false
	case is && i.Op == api.RBranch:
		way := 1
		if ops.Truth(api.Value{Kind: int(kind), N: o.N}) == (i.Code == api.OpJnz) {
			way = 0
		}
		b.Ins, b.Next = append(b.Ins, api.RIns{Op: api.RJump, Dst: -1, PC: i.PC}), []int{b.Next[way]}
	default:
		b.Ins = append(b.Ins, i)
	}
	return true
}

// pruned leaves out what is never asked for.
func pruned(c api.Code) api.Code {
	c = sample.Copied(c)
	ahead := make([]map[int]int, len(c.Blocks))
	for again := true; again; {
		again = false
		for k := range c.Blocks {
			_, set := kept(c, ahead, k)
			again = again || len(set) > len(ahead[k])
			ahead[k] = set
		}
	}
	for k := range c.Blocks {
		c.Blocks[k].Ins, _ = kept(c, ahead, k)
	}
	return c
}

// kept are the instructions of a block that stay, and the registers that are wanted ahead of it.
func kept(c api.Code, ahead []map[int]int, k int) ([]api.RIns, map[int]int) {
	b := c.Blocks[k]
	want := map[int]int{}
	for _, n := range b.Next {
		maps.Copy(want, ahead[n])
	}
	ask := func(l []api.Opnd) {
		for _, o := range l {
			if o.Kind == api.AtReg {
				want[int(o.N)] = 1
			}
		}
	}
	var l []api.RIns
	for _, i := range slices.Backward(b.Ins) {
		if (i.Op == api.RMove || i.Op == api.RPure) && want[i.Dst] == 0 {
			continue
		}
		delete(want, i.Dst)
		ask(i.Args)
		for _, s := range i.Exit {
			ask(s.Slots)
		}
		l = append(l, i)
	}
	slices.Reverse(l)
	return l, want
}
