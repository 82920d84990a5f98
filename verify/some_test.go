package verify

import (
	"math/rand"
	"slices"
	"strconv"

	"portage/api"
	"portage/code"
)

// Functions that fit by the way in which they are made, the height of each instruction known from its making; and spoilt ones.

// maker writes one function that fits.
type maker struct {
	r       *rand.Rand
	locals  int
	code    []api.Instr
	heights []int
	open    []spot // jumps whose place is not known yet, and the height there
}

// put writes an instruction at a height.
func (m *maker) put(i api.Instr, height int) {
	m.code = append(m.code, i)
	m.heights = append(m.heights, height)
}

// operand is one that is right in the programs that are made here: two constants, the second a text, and two functions.
func (m *maker) operand(op int) (int64, bool) {
	switch kind, _ := code.Operand(op); kind {
	case code.Number:
		return m.r.Int63() - m.r.Int63(), true
	case code.Local:
		return int64(m.r.Intn(max(m.locals, 1))), m.locals > 0
	case code.Consts:
		return 1, true
	case code.Funcs:
		return int64(m.r.Intn(2)), true
	case code.Count:
		return int64(m.r.Intn(5)), true
	case code.Width:
		return int64(8 << m.r.Intn(3)), true
	case code.Room:
		return int64(1 + m.r.Intn(api.MaxCap)), true
	case code.Place:
		return 0, false
	}
	return 0, true
}

// plain writes any instruction but a jump, ret or throw that fits at a height, and tells the height behind it.
func (m *maker) plain(height int) int {
	for {
		op := m.r.Intn(api.Ops)
		a, ok := m.operand(op)
		if !ok || op == api.OpRet || op == api.OpThrow {
			continue
		}
		takes, puts, _ := code.Effect(ins(op, a))
		if after := height - takes + puts; takes <= height && after <= api.MaxHeight {
			m.put(ins(op, a), height)
			return after
		}
	}
}

// leap writes a jump of some kind, to a place with the right height that is there, or to one that is yet to come.
func (m *maker) leap(op, height int) {
	after := height
	if op != api.OpJump {
		after--
	}
	back := m.r.Intn(len(m.code) + 1)
	m.put(ins(op, int64(back)), height)
	if m.heights[back] != after || m.r.Intn(2) == 0 {
		m.open = append(m.open, spot{len(m.code) - 1, after})
	}
}

// land lets an open jump lead to the next instruction, and tells the height there.
func (m *maker) land() int {
	k := m.r.Intn(len(m.open))
	s := m.open[k]
	m.open = slices.Delete(m.open, k, k+1)
	m.code[s.pc].A = int64(len(m.code))
	return s.height
}

// finish leaves the function at a height by an instruction behind which nothing comes.
func (m *maker) finish(height int) {
	if height == 0 {
		m.put(ins(api.OpNil), 0)
		height = 1
	}
	m.put(ins([]int{api.OpRet, api.OpThrow}[m.r.Intn(2)]), height)
}

// body writes about n instructions, and then all that is needed to end.
func (m *maker) body(n int) {
	height := 0
	for len(m.code) < n {
		switch k := m.r.Intn(12); {
		case k == 0 && height > 0:
			m.leap([]int{api.OpJz, api.OpJnz}[m.r.Intn(2)], height)
			height--
		case k == 1 && len(m.open) > 0:
			m.finish(height)
			height = m.land()
		case k == 2 && len(m.open) > 0:
			m.leap(api.OpJump, height)
			height = m.land()
		default:
			height = m.plain(height)
		}
	}
	m.finish(height)
	for len(m.open) > 0 {
		m.finish(m.land())
	}
}

// guarded is a handler that holds a piece of the body and fits, with a target of its own behind the body.
func (m *maker) guarded(n int) api.Handler {
	from := m.r.Intn(n)
	to := from + 1 + m.r.Intn(n-from)
	least := api.MaxHeight - 1
	for pc := from; pc < to; pc++ {
		takes, _, _ := code.Effect(m.code[pc])
		least = min(least, m.heights[pc]-takes)
	}
	height := m.r.Intn(least + 1)
	for pc, h := range m.heights {
		if h == height+1 && m.r.Intn(3) == 0 {
			return api.Handler{From: from, To: to, Target: pc, Height: height}
		}
	}
	m.finish(height + 1)
	return api.Handler{From: from, To: to, Target: len(m.code) - 1, Height: height}
}

// fitting is a function that fits, and the heights of its instructions.
func fitting(r *rand.Rand, most int) (api.Function, []int) {
	m := maker{r: r, locals: r.Intn(4)}
	m.body(r.Intn(most + 1))
	f := api.Function{Locals: m.locals}
	n := len(m.code)
	for range r.Intn(4) {
		f.Handlers = append(f.Handlers, m.guarded(n))
	}
	f.Code = m.code
	return f, m.heights
}

// someProgram is a program that fits, and its facts.
func someProgram(r *rand.Rand, most int) (api.Program, api.Facts) {
	p := api.Program{Consts: []api.Const{{Kind: api.Real, N: 5}, {Kind: api.Text, Text: "key"}}}
	var facts api.Facts
	for k := range 2 + r.Intn(3) {
		f, heights := fitting(r, most)
		f.Name = "f" + strconv.Itoa(k)
		if k > 0 {
			f.Params = r.Intn(f.Locals + 1)
		}
		p.Funcs = append(p.Funcs, f)
		facts.Heights = append(facts.Heights, heights)
		facts.Most = append(facts.Most, slices.Max(heights))
	}
	return p, facts
}

// copied is a program with memory of its own.
func copied(p api.Program) api.Program {
	p.Consts = slices.Clone(p.Consts)
	p.Funcs = slices.Clone(p.Funcs)
	for k := range p.Funcs {
		p.Funcs[k].Code = slices.Clone(p.Funcs[k].Code)
		p.Funcs[k].Handlers = slices.Clone(p.Funcs[k].Handlers)
	}
	return p
}

// spoil changes one thing of a program.
func spoil(r *rand.Rand, p *api.Program) {
	f := &p.Funcs[r.Intn(len(p.Funcs))]
	n := len(f.Code)
	if n == 0 {
		return
	}
	switch pc := r.Intn(n); r.Intn(9) {
	case 0:
		f.Code[pc] = ins([]int{api.OpNop, api.OpNil, api.OpPop, api.OpDup, api.OpRet, api.OpSwap}[r.Intn(6)])
	case 1:
		f.Code[pc] = ins([]int{api.OpJump, api.OpJz, api.OpJnz}[r.Intn(3)], int64(r.Intn(n+1)))
	case 2:
		f.Code = slices.Delete(f.Code, pc, pc+1)
	case 3:
		f.Code = slices.Insert(f.Code, pc, ins([]int{api.OpNop, api.OpNil, api.OpPop, api.OpYield}[r.Intn(4)]))
	case 4:
		f.Code[pc].A += int64(r.Intn(3) - 1)
	case 5:
		f.Code = f.Code[:pc]
	case 6:
		f.Handlers = append(f.Handlers, api.Handler{From: pc, To: pc + 1 + r.Intn(n-pc), Target: r.Intn(n), Height: r.Intn(3)})
	case 7:
		f.Code[pc].Op = r.Intn(api.Ops + 1)
	case 8:
		if k := len(f.Handlers); k > 0 {
			f.Handlers[r.Intn(k)].Height += r.Intn(3) - 1
		}
	}
}
