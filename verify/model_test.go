package verify

import (
	"slices"

	"portage/api"
	"portage/code"
	"portage/program"
)

// The chapter's words, slowly: a table of instructions and heights, gone over until nothing more is met.

// ins is an instruction.
func ins(op int, a ...int64) api.Instr {
	i := api.Instr{Op: op}
	if len(a) > 0 {
		i.A = a[0]
	}
	return i
}

// list is a list of instructions.
func list(l ...api.Instr) []api.Instr { return l }

// alone is a program of one function of this code.
func alone(l []api.Instr, hs ...api.Handler) api.Program {
	return api.Program{Funcs: []api.Function{{Name: "main", Code: l, Handlers: hs}}}
}

// ending tells whether nothing comes behind an instruction by itself.
func ending(i api.Instr) bool {
	return i.Op == api.OpJump || i.Op == api.OpRet || i.Op == api.OpThrow
}

// leading tells whether an instruction may go on at its operand.
func leading(i api.Instr) bool {
	return i.Op == api.OpJump || i.Op == api.OpJz || i.Op == api.OpJnz
}

// nexts are an instruction's next ones.
func nexts(f api.Function, pc int) []int {
	var l []int
	if i := f.Code[pc]; leading(i) {
		l = append(l, int(i.A))
	}
	if !ending(f.Code[pc]) && pc < len(f.Code)-1 {
		l = append(l, pc+1)
	}
	return l
}

// holds tells whether a handler holds an instruction.
func holds(h api.Handler, pc int) bool { return h.From <= pc && pc < h.To }

// table tells of each instruction at which heights it is met.
type table [][api.MaxHeight + 1]bool

// rule lays in what one instruction at one height leads to.
func (t table) rule(f api.Function, pc, h int) {
	takes, puts, _ := code.Effect(f.Code[pc])
	if takes <= h && h-takes+puts <= api.MaxHeight {
		for _, n := range nexts(f, pc) {
			t[n][h-takes+puts] = true
		}
	}
	for _, x := range f.Handlers {
		if holds(x, pc) {
			t[x.Target][x.Height+1] = true
		}
	}
}

// count is how many are met.
func (t table) count() int {
	n := 0
	for _, row := range t {
		for _, met := range row {
			if met {
				n++
			}
		}
	}
	return n
}

// tableOf is where a function's instructions are met.
func tableOf(f api.Function) table {
	t := make(table, len(f.Code))
	t[0][0] = true
	for before := 0; before < t.count(); {
		before = t.count()
		for pc := range f.Code {
			for h := range api.MaxHeight + 1 {
				if t[pc][h] {
					t.rule(f, pc, h)
				}
			}
		}
	}
	return t
}

// at are the heights at which an instruction is met.
func (t table) at(pc int) []int {
	var l []int
	for h, met := range t[pc] {
		if met {
			l = append(l, h)
		}
	}
	return l
}

// unfit tells whether a function is wrong by ErrHeight at an instruction.
func unfit(f api.Function, t table, pc int) bool {
	takes, puts, _ := code.Effect(f.Code[pc])
	l := t.at(pc)
	if len(l) >= 2 {
		return true
	}
	for _, h := range l {
		if takes > h || h-takes+puts > api.MaxHeight {
			return true
		}
		for _, x := range f.Handlers {
			if holds(x, pc) && x.Height > h-takes {
				return true
			}
		}
	}
	return false
}

// meantOf is what the chapter says of one function.
func meantOf(f api.Function) ([]int, int, api.Errno) {
	t := tableOf(f)
	for pc := range f.Code {
		if unfit(f, t, pc) {
			return nil, pc, api.ErrHeight
		}
	}
	var heights []int
	for pc, i := range f.Code {
		l := t.at(pc)
		if len(l) == 0 || pc == len(f.Code)-1 && !ending(i) {
			return nil, pc, api.ErrReach
		}
		heights = append(heights, l[0])
	}
	return heights, 0, api.OK
}

// meant is what the chapter says of a program.
func meant(p api.Program) (api.Facts, api.Place, api.Errno) {
	if at, err := program.Check(p); err != api.OK {
		return api.Facts{}, at, err
	}
	var facts api.Facts
	for k, f := range p.Funcs {
		l, pc, err := meantOf(f)
		if err != api.OK {
			return api.Facts{}, api.Place{Fn: k, PC: pc}, err
		}
		facts.Heights = append(facts.Heights, l)
		facts.Most = append(facts.Most, slices.Max(l))
	}
	return facts, api.Place{}, api.OK
}

// sameFacts tells whether two facts are the same.
func sameFacts(a, b api.Facts) bool {
	return slices.EqualFunc(a.Heights, b.Heights, slices.Equal) && slices.Equal(a.Most, b.Most)
}

// samePrograms tells whether two programs are the same.
func samePrograms(a, b api.Program) bool {
	return slices.Equal(a.Consts, b.Consts) && slices.EqualFunc(a.Funcs, b.Funcs, func(f, g api.Function) bool {
		return f.Name == g.Name && f.Params == g.Params && f.Locals == g.Locals && slices.Equal(f.Code, g.Code) && slices.Equal(f.Handlers, g.Handlers)
	})
}

// noFacts tells whether there are none.
func noFacts(f api.Facts) bool { return len(f.Heights) == 0 && len(f.Most) == 0 }
