package sample

import (
	"slices"
	"strconv"

	"portage/api"
	"portage/code"
)

// writer writes one function that fits, the height of each instruction known from its making.
type writer struct {
	Source
	locals  int
	code    []api.Instr
	heights []int
	open    []jump
}

// jump is one whose place is not known yet, and the height there.
type jump struct {
	pc, height int
}

func ins(op int, a ...int64) api.Instr {
	i := api.Instr{Op: op}
	for _, n := range a {
		i.A = n
	}
	return i
}

func (w *writer) put(i api.Instr, height int) {
	w.code = append(w.code, i)
	w.heights = append(w.heights, height)
}

// operand is one that is right in the programs that are drawn here; false: there is none.
func (w *writer) operand(op int) (int64, bool) {
	switch kind, _ := code.Operand(op); kind {
	case code.Number:
		return int64(w.Intn(5) - 1), true
	case code.Local:
		return int64(w.Intn(max(w.locals, 1))), w.locals > 0
	case code.Consts:
		if op == api.OpConst {
			return int64(w.Intn(len(Consts()))), true
		}
		return key(w), true
	case code.Funcs:
		return int64(w.Intn(2)), true
	case code.Count:
		return int64(w.Intn(4)), true
	case code.Width:
		return int64(8 << w.Intn(3)), true
	case code.Room:
		return int64(1 + w.Intn(4)), true
	case code.Place:
		return 0, false
	}
	return 0, true
}

// operation is any operation, those that seldom trap more often than others, so that runs come far.
func operation(r Source) int {
	if r.Intn(4) == 0 {
		return r.Intn(api.Ops)
	}
	return one(r, api.OpInt, api.OpInt, api.OpLoad, api.OpLoad, api.OpStore, api.OpStore, api.OpAdd, api.OpSub, api.OpMul, api.OpLt,
		api.OpEq, api.OpNe, api.OpTest, api.OpFlip, api.OpDup, api.OpSwap, api.OpPop, api.OpNop, api.OpTrue, api.OpToText,
		api.OpKind, api.OpPrint, api.OpRead, api.OpArray, api.OpRecord, api.OpConst)
}

// most is how high the stacks of what is drawn here grow.
const most = 12

// write writes an instruction that fits at a height, of any operation that may stand there, and tells the height behind it.
func (w *writer) write(height int, may func(op int) bool) int {
	for {
		op := operation(w)
		a, ok := w.operand(op)
		if !ok || !may(op) {
			continue
		}
		takes, puts, _ := code.Effect(ins(op, a))
		if after := height - takes + puts; takes <= height && after <= most {
			w.put(ins(op, a), height)
			return after
		}
	}
}

// plain writes any instruction but a jump, ret or throw.
func (w *writer) plain(height int) int {
	return w.write(height, func(op int) bool { return !code.Ends(op) })
}

// leap writes a jump of some kind, to a place with the right height that is there (its own too), or to one that is yet to come.
func (w *writer) leap(op, height int) {
	after := height
	if op != api.OpJump {
		after--
	}
	back := w.Intn(len(w.code) + 1)
	w.put(ins(op, int64(back)), height)
	if w.heights[back] != after || w.Intn(3) == 0 {
		w.open = append(w.open, jump{len(w.code) - 1, after})
	}
}

// land lets an open jump lead to the next instruction, and tells the height there.
func (w *writer) land() int {
	k := w.Intn(len(w.open))
	j := w.open[k]
	w.open = slices.Delete(w.open, k, k+1)
	w.code[j.pc].A = int64(len(w.code))
	return j.height
}

// call writes a call of function 1, with as many values as may be wrong, and tells the height behind it.
func (w *writer) call(height int) int {
	w.put(ins(api.OpFunc, 1), height)
	n := w.Intn(3)
	for k := range n {
		w.put(ins(api.OpInt, int64(w.Intn(3))), height+1+k)
	}
	w.put(ins(api.OpCall, int64(n)), height+1+n)
	return height + 1
}

// finish leaves the function at a height by an instruction behind which nothing comes.
func (w *writer) finish(height int) {
	if height == 0 {
		w.put(ins(api.OpNil), 0)
		height = 1
	}
	w.put(ins(one(w, api.OpRet, api.OpRet, api.OpThrow)), height)
}

// body writes about n instructions, and then all that is needed to end.
func (w *writer) body(n int) {
	height := 0
	for len(w.code) < n {
		switch k := w.Intn(12); {
		case k < 2 && height > 0:
			w.leap(one(w, api.OpJz, api.OpJnz), height)
			height--
		case k == 2 && len(w.open) > 0:
			w.finish(height)
			height = w.land()
		case k == 3 && len(w.open) > 0:
			w.leap(api.OpJump, height)
			height = w.land()
		case k == 4 && height < most-3:
			height = w.call(height)
		default:
			height = w.plain(height)
		}
	}
	w.finish(height)
	for len(w.open) > 0 {
		w.finish(w.land())
	}
}

// guarded is a handler that holds a piece of the first n instructions and fits.
func (w *writer) guarded(n int) api.Handler {
	from := w.Intn(n)
	to := from + 1 + w.Intn(n-from)
	least := api.MaxHeight - 1
	for pc := from; pc < to; pc++ {
		takes, _, _ := code.Effect(w.code[pc])
		least = min(least, w.heights[pc]-takes)
	}
	height := w.Intn(least + 1)
	for pc, h := range w.heights {
		if h == height+1 && w.Intn(3) == 0 {
			return api.Handler{From: from, To: to, Target: pc, Height: height}
		}
	}
	w.finish(height + 1)
	return api.Handler{From: from, To: to, Target: len(w.code) - 1, Height: height}
}

// function is a function that fits; without parameters, if it is main.
func function(r Source, name string, size int, main bool) api.Function {
	w := writer{Source: r, locals: r.Intn(4)}
	w.body(size)
	f := api.Function{Name: name, Locals: w.locals}
	n := len(w.code)
	for range r.Intn(4) {
		f.Handlers = append(f.Handlers, w.guarded(n))
	}
	f.Code = w.code
	if !main {
		f.Params = r.Intn(f.Locals + 1)
	}
	return f
}

// Program is a verified program of two functions or a few more, each of about as many instructions at the most.
func Program(r Source, size int) api.Program {
	p := api.Program{Consts: Consts()}
	for k := range 2 + r.Intn(3) {
		p.Funcs = append(p.Funcs, function(r, "f"+strconv.Itoa(k), 1+r.Intn(size), k == 0))
	}
	return p
}
