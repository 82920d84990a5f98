package inline

import (
	"slices"

	"portage/api"
	"portage/code"
	"portage/sample"
)

// small is Fits, by the chapter's words.
func small(p api.Program, fn int) bool {
	if fn < 0 || fn >= len(p.Funcs) || len(p.Funcs[fn].Code) < 1 || len(p.Funcs[fn].Code) > 24 || len(p.Funcs[fn].Handlers) > 0 {
		return false
	}
	for pc, i := range p.Funcs[fn].Code {
		name, _ := code.Name(i.Op)
		if last := pc == len(p.Funcs[fn].Code)-1; last && name != "ret" || !last && !slices.Contains(onward(), name) {
			return false
		}
	}
	return true
}

// goal is the function that takes the place of the call at a shape, and how many values it is called with; false: the call is not replaced.
func goal(p api.Program, f api.Facts, c api.Code, s api.Shape, prof api.Profile) (int, int, bool) {
	call := p.Funcs[c.Fn].Code[s.PC]
	if call.Op != api.OpCall || c.Fn >= len(prof.Funcs) || s.PC >= len(prof.Funcs[c.Fn]) {
		return 0, 0, false
	}
	k, n := prof.Funcs[c.Fn][s.PC].Callee-1, int(call.A)
	if prof.Funcs[c.Fn][s.PC].Callee < 1 || !small(p, k) || p.Funcs[k].Params != n {
		return 0, 0, false
	}
	b := p.Funcs[c.Fn].Locals + f.Most[c.Fn] + 1
	if b+p.Funcs[k].Locals+f.Most[k]+1 > 512 {
		return 0, 0, false
	}
	w := s.Slots[:len(s.Slots)-n-1]
	for i, o := range w {
		if o.Kind != api.AtReg || o.N == int64(i) || o.N >= int64(len(w)) {
			continue
		}
		if w[o.N] != at(api.AtReg, o.N) {
			return 0, 0, false
		}
	}
	return k, n, true
}

// meant is Run's answer, number by number of the chapter's list.
func meant(p api.Program, f api.Facts, c api.Code, prof api.Profile) api.Code {
	out := sample.Copied(c)
	for j := range out.Blocks {
		block := &out.Blocks[j]
		last := len(block.Ins) - 1
		leave := block.Ins[last]
		if leave.Op != api.RLeave || len(leave.Exit) != 1 {
			continue
		}
		s := leave.Exit[0]
		k, n, ok := goal(p, f, c, s, prof)
		if !ok {
			continue
		}
		block.Ins = append(block.Ins[:last], meantCall(p, f, c.Fn, s, k, n)...)
		block.Next = []int{slices.IndexFunc(c.Blocks, func(b api.Block) bool { return b.PC == s.PC+1 })}
		out.Regs = max(out.Regs, p.Funcs[c.Fn].Locals+f.Most[c.Fn]+1+p.Funcs[k].Locals+f.Most[k]+1)
	}
	return out
}

// meantCall is what stands in the place of one call.
func meantCall(p api.Program, f api.Facts, fn int, s api.Shape, k, n int) []api.RIns {
	b := p.Funcs[fn].Locals + f.Most[fn] + 1
	l := p.Funcs[k].Locals
	cut := len(s.Slots) - n - 1
	w, rest := s.Slots[:cut], s.Slots[cut:]
	ret := len(p.Funcs[k].Code) - 1
	list := []api.RIns{{Op: api.RCallee, Dst: -1, N: int64(k), Args: opnds(rest[0]), PC: s.PC, Exit: []api.Shape{s}}}
	move := func(dst int, o api.Opnd, pc int) {
		list = append(list, api.RIns{Op: api.RMove, Dst: dst, Args: opnds(o), PC: pc})
	}
	for i := range l {
		if i < n {
			move(b+i, rest[1+i], s.PC)
		} else {
			move(b+i, at(api.AtNil, 0), s.PC)
		}
	}
	points := []int{0}
	places := []int{0}
	for pc := range ret {
		for _, x := range meantIns(p, f, k, pc, b) {
			if x.Op == api.RPlain {
				x.Exit = []api.Shape{{Fn: fn, PC: s.PC, Slots: w}, {Fn: k, PC: pc, Slots: upTo(b, l+f.Heights[k][pc])}}
				points, places = append(points, len(list)), append(places, pc)
			}
			list = append(list, x)
		}
	}
	for i, o := range w {
		if o != reg(i) {
			move(i, o, ret)
		}
	}
	move(len(w), reg(b+l+f.Heights[k][ret]-1), ret)
	list = append(list, api.RIns{Op: api.RJump, Dst: -1, N: 1, PC: s.PC + 1})
	places = append(places, ret+1)
	for j, x := range points {
		list[x].Need = places[j+1] - places[j]
	}
	list[0].Need++
	return list
}

// meantIns is the row of P19.1's table for an instruction that may stand in a small function, b being added to the registers.
func meantIns(p api.Program, f api.Facts, k, pc, b int) []api.RIns {
	i := p.Funcs[k].Code[pc]
	next := b + p.Funcs[k].Locals + f.Heights[k][pc]
	top, spare := next-1, b+p.Funcs[k].Locals+f.Most[k]
	move := func(dst int, o api.Opnd) api.RIns {
		return api.RIns{Op: api.RMove, Dst: dst, Args: opnds(o), PC: pc}
	}
	switch i.Op {
	case api.OpNop, api.OpPop:
		return nil
	case api.OpNil:
		return []api.RIns{move(next, at(api.AtNil, 0))}
	case api.OpTrue:
		return []api.RIns{move(next, at(api.AtBool, 1))}
	case api.OpFalse:
		return []api.RIns{move(next, at(api.AtBool, 0))}
	case api.OpInt:
		return []api.RIns{move(next, at(api.AtInt, i.A))}
	case api.OpConst:
		return []api.RIns{move(next, at(api.AtConst, i.A))}
	case api.OpFunc:
		return []api.RIns{move(next, at(api.AtFunc, i.A))}
	case api.OpLoad:
		return []api.RIns{move(next, reg(b+int(i.A)))}
	case api.OpDup:
		return []api.RIns{move(next, reg(top))}
	case api.OpStore:
		return []api.RIns{move(b+int(i.A), reg(top))}
	case api.OpSwap:
		return []api.RIns{move(spare, reg(top)), move(top, reg(top-1)), move(top-1, reg(spare))}
	}
	x := api.RIns{Op: api.RPlain, Code: i.Op, Dst: -1, N: i.A, PC: pc}
	if slices.Contains([]int{api.OpEq, api.OpNe, api.OpTest, api.OpFlip}, i.Op) {
		x.Op = api.RPure
	}
	takes, puts, _ := code.Effect(i)
	x.Args = upTo(next-takes, takes)
	if puts > 0 {
		x.Dst = next - takes
	}
	return []api.RIns{x}
}
