package lift

import (
	"slices"

	"portage/api"
	"portage/code"
	"portage/graph"
	"portage/ops"
)

// meant is Function's answer, row by row of the chapter's table, the Needs counted one by one.
func meant(p api.Program, f api.Facts, fn int) api.Code {
	g, _ := graph.Build(p.Funcs[fn])
	c := api.Code{Fn: fn, Regs: p.Funcs[fn].Locals + f.Most[fn] + 1}
	for k, start := range g.Starts {
		end := len(p.Funcs[fn].Code)
		if k+1 < len(g.Starts) {
			end = g.Starts[k+1]
		}
		b := api.Block{PC: start, Ins: []api.RIns{{Op: api.RPoint, Dst: -1, PC: start}}}
		for pc := start; pc < end; pc++ {
			meantIns(p, f, g, fn, pc, &b)
		}
		if last := b.Ins[len(b.Ins)-1].Op; last != api.RJump && last != api.RBranch && last != api.RLeave {
			b.Ins = append(b.Ins, api.RIns{Op: api.RJump, Dst: -1, N: 1, PC: end})
			b.Next = []int{slices.Index(g.Starts, end)}
		}
		for j := range b.Ins {
			meantPoint(p, f, fn, end, b.Ins, j)
		}
		c.Blocks = append(c.Blocks, b)
	}
	return c
}

// meantIns puts down the table's row of an instruction.
func meantIns(p api.Program, f api.Facts, g api.Graph, fn, pc int, b *api.Block) {
	i := p.Funcs[fn].Code[pc]
	l, h := p.Funcs[fn].Locals, f.Heights[fn][pc]
	top, spare := l+h-1, l+f.Most[fn]
	move := func(dst int, o api.Opnd) {
		b.Ins = append(b.Ins, api.RIns{Op: api.RMove, Dst: dst, Args: []api.Opnd{o}, PC: pc})
	}
	back := func() {
		if i.A <= int64(pc) && pc > b.PC {
			b.Ins = append(b.Ins, api.RIns{Op: api.RPoint, Dst: -1, PC: pc})
		}
	}
	switch i.Op {
	case api.OpNop, api.OpPop:
	case api.OpNil:
		move(l+h, at(api.AtNil, 0))
	case api.OpTrue:
		move(l+h, at(api.AtBool, 1))
	case api.OpFalse:
		move(l+h, at(api.AtBool, 0))
	case api.OpInt:
		move(l+h, at(api.AtInt, i.A))
	case api.OpConst:
		move(l+h, at(api.AtConst, i.A))
	case api.OpFunc:
		move(l+h, at(api.AtFunc, i.A))
	case api.OpLoad:
		move(l+h, reg(int(i.A)))
	case api.OpDup:
		move(l+h, reg(top))
	case api.OpStore:
		move(int(i.A), reg(top))
	case api.OpSwap:
		move(spare, reg(top))
		move(top, reg(top-1))
		move(top-1, reg(spare))
	case api.OpJump:
		back()
		b.Ins = append(b.Ins, api.RIns{Op: api.RJump, Dst: -1, PC: pc})
		b.Next = []int{slices.Index(g.Starts, int(i.A))}
	case api.OpJz, api.OpJnz:
		back()
		b.Ins = append(b.Ins, api.RIns{Op: api.RBranch, Code: i.Op, Dst: -1, Args: regs(top), PC: pc})
		b.Next = []int{slices.Index(g.Starts, int(i.A)), slices.Index(g.Starts, pc+1)}
	case api.OpCall, api.OpRet, api.OpThrow, api.OpSpawn, api.OpYield, api.OpSend, api.OpRecv:
		b.Ins = append(b.Ins, api.RIns{Op: api.RLeave, Dst: -1, PC: pc})
	default:
		x := api.RIns{Op: api.RPlain, Code: i.Op, Dst: -1, N: i.A, PC: pc}
		if slices.Contains([]int{api.OpEq, api.OpNe, api.OpTest, api.OpFlip}, i.Op) {
			x.Op = api.RPure
		}
		takes, puts, _ := code.Effect(i)
		for k := takes; k > 0; k-- {
			x.Args = append(x.Args, reg(l+h-k))
		}
		if puts > 0 {
			x.Dst = l + h - takes
		}
		b.Ins = append(b.Ins, x)
	}
}

// meantPoint gives instruction j of a list its Exit and its Need, if it is a point.
func meantPoint(p api.Program, f api.Facts, fn, end int, list []api.RIns, j int) {
	x := &list[j]
	if x.Op != api.RPlain && x.Op != api.RPoint && x.Op != api.RLeave {
		return
	}
	x.Exit = []api.Shape{{Fn: fn, PC: x.PC, Slots: upTo(p.Funcs[fn].Locals + f.Heights[fn][x.PC])}}
	if x.Op == api.RLeave {
		return
	}
	for _, y := range list[j+1:] {
		if y.Op == api.RPlain || y.Op == api.RPoint || y.Op == api.RLeave {
			x.Need = y.PC - x.PC
			return
		}
	}
	x.Need = end - x.PC
}

// flaw is the first of the chapter's sentences on right register code that does not hold; "": all hold.
func flaw(p api.Program, f api.Facts, c api.Code) string {
	if c.Fn < 0 || c.Fn >= len(p.Funcs) {
		return "Fn is the number of a function"
	}
	if c.Regs < 0 || c.Regs > 512 {
		return "Regs is from 0 to MaxRegs"
	}
	g, _ := graph.Build(p.Funcs[c.Fn])
	if len(c.Blocks) != len(g.Starts) {
		return "as many blocks as the graph has"
	}
	for k, b := range c.Blocks {
		if b.PC != g.Starts[k] {
			return "each with the PC of its start"
		}
		if why := flawOfBlock(p, f, c, k); why != "" {
			return why
		}
	}
	return ""
}

// flawOfBlock is the same of one block.
func flawOfBlock(p api.Program, f api.Facts, c api.Code, k int) string {
	b := c.Blocks[k]
	n := len(b.Ins)
	if n < 2 || b.Ins[0].Op != api.RPoint {
		return "its first one is RPoint"
	}
	behind := map[int]int{api.RJump: 1, api.RBranch: 2, api.RLeave: 0}
	for j, i := range b.Ins {
		if _, ends := behind[i.Op]; ends != (j == n-1) {
			return "the last one is RJump, RBranch or RLeave, and none else"
		}
	}
	if len(b.Next) != behind[b.Ins[n-1].Op] {
		return "Next has 1, 2 or 0"
	}
	back, needs := false, 0
	for _, x := range b.Next {
		if x < 0 || x >= len(c.Blocks) {
			return "each that of a block"
		}
		back = back || x <= k
	}
	for _, i := range b.Ins {
		if why := flawOfIns(p, c, i); why != "" {
			return why
		}
		if why := flawOfPoint(p, f, c, i); why != "" {
			return why
		}
		needs += i.Need
	}
	e := b.Ins[0].Exit
	if len(e) != 1 || e[0].PC != b.PC || !slices.Equal(e[0].Slots, upTo(len(e[0].Slots))) {
		return "the first RPoint's Exit"
	}
	if back && needs < 1 {
		return "the Needs of a block that leads back"
	}
	return ""
}

// row is a line of the chapter's table of instructions.
type row struct {
	dst, args int
	right     bool
}

// flawOfIns holds an instruction against its row of the table.
func flawOfIns(p api.Program, c api.Code, i api.RIns) string {
	takes, puts, there := code.Effect(api.Instr{Op: i.Code, A: i.N})
	bare := i.Code == 0 && i.N == 0
	var w row
	switch i.Op {
	case api.RMove:
		w = row{1, 1, bare}
	case api.RPure:
		takes, _, _ = code.Effect(api.Instr{Op: i.Code})
		onInts := []int{api.OpAdd, api.OpSub, api.OpMul, api.OpAnd, api.OpOr, api.OpXor, api.OpBic, api.OpLt, api.OpLe, api.OpNeg, api.OpNot}
		onReals := []int{api.OpAdd, api.OpSub, api.OpMul, api.OpDiv, api.OpLt, api.OpLe, api.OpNeg, api.OpSqrt, api.OpFloor, api.OpSingle}
		onAll := []int{api.OpEq, api.OpNe, api.OpTest, api.OpFlip}
		w = row{1, takes, i.N == 0 && slices.Contains(onAll, i.Code) || i.N == api.Int && slices.Contains(onInts, i.Code) || i.N == api.Real && slices.Contains(onReals, i.Code)}
	case api.RPlain:
		does := ops.Applies(i.Code) || i.Code == api.OpPrint || i.Code == api.OpRead
		w = row{puts, takes, there && does}
		if slices.Contains([]int{api.OpGetf, api.OpSetf, api.OpHasf, api.OpDelf}, i.Code) {
			w.right = w.right && i.N < int64(len(p.Consts)) && p.Consts[i.N].Kind == api.Text
		}
	case api.RGuard:
		w = row{0, 1, i.Code == 0 && i.N >= 0 && i.N <= 9}
	case api.RCallee:
		w = row{0, 1, i.Code == 0 && i.N >= 0 && i.N < int64(len(p.Funcs))}
	case api.RPoint, api.RLeave:
		w = row{0, 0, bare}
	case api.RJump:
		w = row{0, 0, bare || i.Code == 0 && i.N == 1}
	case api.RBranch:
		w = row{0, 1, i.N == 0 && (i.Code == api.OpJz || i.Code == api.OpJnz)}
	}
	if !w.right || len(i.Args) != w.args {
		return "Op, number of Args, Code and N"
	}
	if w.dst == 0 && i.Dst != -1 || w.dst == 1 && (i.Dst < 0 || i.Dst >= c.Regs) {
		return "Dst"
	}
	return flawOfOpnds(p, c, i.Args)
}

// flawOfOpnds asks whether operands are right.
func flawOfOpnds(p api.Program, c api.Code, l []api.Opnd) string {
	for _, o := range l {
		bits := uint64(o.N) << 1
		if !map[int]bool{
			api.AtReg:   o.N >= 0 && o.N < int64(c.Regs),
			api.AtNil:   o.N == 0,
			api.AtBool:  o.N == 0 || o.N == 1,
			api.AtInt:   true,
			api.AtReal:  bits <= 0x7FF<<53 || o.N == 0x7FF8000000000000,
			api.AtConst: o.N >= 0 && o.N < int64(len(p.Consts)),
			api.AtFunc:  o.N >= 0 && o.N < int64(len(p.Funcs)),
		}[o.Kind] {
			return "each operand is right"
		}
	}
	return ""
}

// flawOfPoint asks for Need and Exit.
func flawOfPoint(p api.Program, f api.Facts, c api.Code, i api.RIns) string {
	if !slices.Contains([]int{api.RPlain, api.RGuard, api.RCallee, api.RPoint, api.RLeave}, i.Op) {
		if i.Need != 0 || len(i.Exit) != 0 {
			return "what is no point"
		}
		return ""
	}
	if i.Need < 0 || i.Need > 4000 || i.Op == api.RLeave && i.Need > 0 {
		return "Need"
	}
	if len(i.Exit) == 0 || len(i.Exit) > 2 || i.Exit[0].Fn != c.Fn {
		return "an Exit of one or two shapes"
	}
	for j, s := range i.Exit {
		if s.Fn < 0 || s.Fn >= len(p.Funcs) || s.PC < 0 || s.PC >= len(p.Funcs[s.Fn].Code) {
			return "Fn and PC of a shape"
		}
		n := p.Funcs[s.Fn].Locals + f.Heights[s.Fn][s.PC]
		if j == 0 && len(i.Exit) == 2 {
			if p.Funcs[s.Fn].Code[s.PC].Op != api.OpCall {
				return "the first one's PC is a call"
			}
			n -= int(p.Funcs[s.Fn].Code[s.PC].A) + 1
		}
		if len(s.Slots) != n {
			return "as many slots"
		}
		if why := flawOfOpnds(p, c, s.Slots); why != "" {
			return "slots: " + why
		}
	}
	return ""
}
