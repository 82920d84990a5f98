package sample

import (
	"strconv"

	"portage/api"
	"portage/code"
)

// onward tells whether an operation goes on behind itself, and needs neither other frames nor other fibers. (Layer 20 is not asked: its own tests draw here.)
func onward(op int) bool {
	switch op {
	case api.OpCall, api.OpSpawn, api.OpYield, api.OpSend, api.OpRecv:
		return false
	}
	return !code.Ends(op) && !code.Jumps(op)
}

// small is a function of some parameters that runs straight through.
func small(r Source, name string, params int) api.Function {
	w := writer{Source: r, locals: params + r.Intn(3)}
	height := 0
	for range r.Intn(api.MaxInline - 1) {
		height = w.write(height, onward)
	}
	if height == 0 {
		w.put(ins(api.OpNil), 0)
		height = 1
	}
	w.put(ins(api.OpRet), height)
	return api.Function{Name: name, Params: params, Locals: w.locals, Code: w.code}
}

// mostGiven is how many values a call has that is written on purpose.
const mostGiven = 2

// named is the function that a call names just ahead of its values, and where it does; false: it names none.
func named(l []api.Instr, pc int) (int, bool) {
	if l[pc].Op != api.OpCall || l[pc].A > mostGiven || pc < int(l[pc].A)+1 {
		return 0, false
	}
	at := pc - int(l[pc].A) - 1
	return at, l[at].Op == api.OpFunc
}

// Caller is a verified program as Program draws them, with small functions behind the others, which most of its calls go to.
func Caller(r Source, size int) api.Program {
	p := Program(r, size)
	first := len(p.Funcs)
	for k := range 3 * (mostGiven + 1) {
		p.Funcs = append(p.Funcs, small(r, "s"+strconv.Itoa(k), k%(mostGiven+1)))
	}
	for _, f := range p.Funcs[:first] {
		for pc, i := range f.Code {
			if at, ok := named(f.Code, pc); ok && r.Intn(8) > 0 {
				f.Code[at].A = int64(first+(mostGiven+1)*r.Intn(3)) + i.A
			}
		}
	}
	return p
}

// Profile is a profile of a program, of which much is true: calls mostly go to the function that they name, and operands are mostly ints.
func Profile(r Source, p api.Program) api.Profile {
	f := api.Profile{Funcs: make([][]api.Spot, len(p.Funcs))}
	for k, fn := range p.Funcs {
		for pc := range fn.Code {
			s := api.Spot{Count: int64(r.Intn(9)), A: kinds(r), B: kinds(r), Callee: one(r, -1, 0, 1+r.Intn(len(p.Funcs)), Edge(r))}
			if at, ok := named(fn.Code, pc); ok && r.Intn(6) > 0 {
				s.Callee = int(fn.Code[at].A) + 1
			}
			f.Funcs[k] = append(f.Funcs[k], s)
		}
	}
	if r.Intn(8) == 0 {
		k := r.Intn(len(p.Funcs))
		f.Funcs[k] = f.Funcs[k][:r.Intn(len(f.Funcs[k]))]
	}
	return f
}

// kinds are the bits of some kinds.
func kinds(r Source) uint16 { return one[uint16](r, 1<<api.Int, 1<<api.Int, 1<<api.Real, 0, 12, 1023) }
