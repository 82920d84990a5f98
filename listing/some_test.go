package listing

import (
	"math"
	"math/rand"
	"slices"
	"strconv"
	"strings"

	"portage/api"
	"portage/code"
)

// lines is a text out of lines, each with a / behind it, as the chapter's example writes them.
func lines(s string) string { return strings.ReplaceAll(s, "/", "\n") }

// begin is how a text begins, for what a test says of it.
func begin(s string) string { return s[:min(len(s), 400)] }

// alike tells whether two programs are the same, where no list and an empty one are.
func alike(p, q api.Program) bool {
	return slices.Equal(p.Consts, q.Consts) && slices.EqualFunc(p.Funcs, q.Funcs, func(f, g api.Function) bool {
		return f.Name == g.Name && f.Params == g.Params && f.Locals == g.Locals &&
			slices.Equal(f.Code, g.Code) && slices.Equal(f.Handlers, g.Handlers)
	})
}

// copied is a program that shares nothing with this one.
func copied(p api.Program) api.Program {
	q := api.Program{Consts: slices.Clone(p.Consts), Funcs: slices.Clone(p.Funcs)}
	for k := range q.Funcs {
		q.Funcs[k].Code, q.Funcs[k].Handlers = slices.Clone(q.Funcs[k].Code), slices.Clone(q.Funcs[k].Handlers)
	}
	return q
}

// someBytes is a text of bytes among which those that are written in another way are many.
func someBytes(r *rand.Rand, most int) string {
	b := make([]byte, r.Intn(most+1))
	for i := range b {
		b[i] = byte(r.Intn(256))
		if r.Intn(2) == 0 {
			b[i] = "\"\\\n\r\t #nx07fF:\x00\x7f\x80\xff~|"[r.Intn(20)]
		}
	}
	return string(b)
}

// someReal is the bits of a right real.
func someReal(r *rand.Rand) int64 {
	x := r.Uint64()
	if r.Intn(2) == 0 {
		x = []uint64{0, 1 << 63, 0x7ff0000000000000, 0xfff0000000000000, 0x7ff8000000000000, 1, 1<<63 | 1, 0x3ff0000000000000, 0x7fefffffffffffff, 0x444b1ae4d6e2ef50}[r.Intn(10)]
	}
	if f := math.Float64frombits(x); f != f {
		return 0x7ff8000000000000
	}
	return int64(x)
}

// someConsts are right constants, no two alike.
func someConsts(r *rand.Rand) []api.Const {
	var l []api.Const
	for range r.Intn(6) {
		c := api.Const{Kind: api.Text, Text: someBytes(r, 12)}
		if r.Intn(2) == 0 {
			c = api.Const{Kind: api.Real, N: someReal(r)}
		}
		if !slices.Contains(l, c) {
			l = append(l, c)
		}
	}
	return l
}

// someOperand is an operand that is right in a function; false: there is none.
func someOperand(r *rand.Rand, p api.Program, k, op int) (int64, bool) {
	kind, _ := code.Operand(op)
	n := map[int]int{code.Place: len(p.Funcs[k].Code), code.Local: p.Funcs[k].Locals, code.Consts: len(p.Consts),
		code.Funcs: len(p.Funcs), code.Count: api.MaxHeight, code.Width: 3, code.Room: api.MaxCap, code.Plain: 1, code.Number: 1}[kind]
	if n == 0 {
		return 0, false
	}
	a := int64(r.Intn(n))
	switch kind {
	case code.Number:
		return int64(r.Uint64()) >> r.Intn(64), true
	case code.Width:
		return 8 << a, true
	case code.Room:
		return 1 + a, true
	case code.Consts:
		return a, op == api.OpConst || p.Consts[a].Kind == api.Text
	}
	return a, true
}

// someProgram is a well-formed program.
func someProgram(r *rand.Rand) api.Program {
	p := api.Program{Consts: someConsts(r), Funcs: make([]api.Function, 1+r.Intn(4))}
	for k := range p.Funcs {
		f := &p.Funcs[k]
		f.Name = []string{"", "func", "handler", "const", "real", "_", "0", "L"}[r.Intn(8)] + strconv.Itoa(k)
		f.Locals = r.Intn(4)
		if k > 0 {
			f.Params = r.Intn(f.Locals + 1)
		}
		f.Code = make([]api.Instr, 1+r.Intn(12))
		n := len(f.Code)
		for pc := range f.Code {
			op := r.Intn(api.Ops)
			if r.Intn(3) == 0 {
				op = api.OpJump + r.Intn(3)
			}
			if a, ok := someOperand(r, p, k, op); ok {
				f.Code[pc] = api.Instr{Op: op, A: a}
			}
		}
		for range r.Intn(3) {
			from := r.Intn(n)
			f.Handlers = append(f.Handlers, api.Handler{From: from, To: from + 1 + r.Intn(n-from), Target: r.Intn(n), Height: r.Intn(api.MaxHeight)})
		}
	}
	return p
}

// spoil changes one thing of a program, which need not be well-formed any more.
func spoil(r *rand.Rand, p *api.Program) {
	f := &p.Funcs[r.Intn(len(p.Funcs))]
	some := []int{-1, 0, 1, 2, 3, 63, 64, 65, 2000, math.MinInt64, math.MaxInt64}[r.Intn(11)]
	switch r.Intn(9) {
	case 0:
		p.Consts = append(p.Consts, api.Const{Kind: some, N: int64(some)})
	case 1:
		p.Consts = append(p.Consts, p.Consts...)
	case 2:
		f.Name = []string{"", "a b", "a\n", strings.Repeat("n", 33), p.Funcs[0].Name}[r.Intn(5)]
	case 3:
		f.Params = some
	case 4:
		f.Locals = some
	case 5:
		f.Code[r.Intn(len(f.Code))] = api.Instr{Op: r.Intn(api.Ops+2) - 1, A: int64(some)}
	case 6:
		f.Handlers = append(f.Handlers, api.Handler{From: 0, To: some, Target: r.Intn(3), Height: r.Intn(66)})
	case 7:
		f.Handlers = append(f.Handlers, api.Handler{From: 0, To: 1, Target: some})
	default:
		f.Code = f.Code[:r.Intn(len(f.Code))]
	}
}

// someInt is a number, near to those that mean something more often than not.
func someInt(r *rand.Rand) int {
	switch r.Intn(4) {
	case 0:
		return int(r.Uint64())
	case 1:
		return []int{math.MinInt64, math.MaxInt64, -1, 0, 9, 10, 66, 67}[r.Intn(8)]
	}
	return r.Intn(14) - 2
}

// someOpnds are operands, right or not.
func someOpnds(r *rand.Rand, most int) []api.Opnd {
	var l []api.Opnd
	for range r.Intn(most + 1) {
		o := api.Opnd{Kind: r.Intn(9) - 1, N: int64(someInt(r))}
		switch r.Intn(12) {
		case 0:
			o.Kind = someInt(r)
		case 1, 2:
			o = api.Opnd{Kind: api.AtReal, N: someReal(r)}
		case 3:
			// A NaN, mostly another one than the one NaN.
			o = api.Opnd{Kind: api.AtReal, N: 0x7ff<<52 | 1<<r.Intn(52) | -1<<63*int64(r.Intn(2))}
		}
		l = append(l, o)
	}
	return l
}

// someIns is an instruction of register code, right or not.
func someIns(r *rand.Rand) api.RIns {
	i := api.RIns{Op: 1 + r.Intn(9), Code: r.Intn(api.Ops), Dst: someInt(r), Args: someOpnds(r, 4), N: int64(someInt(r)), PC: someInt(r), Need: someInt(r)}
	if r.Intn(4) == 0 {
		i.Op = someInt(r)
	}
	if r.Intn(4) == 0 {
		i.Code = someInt(r)
	}
	for range r.Intn(3) {
		i.Exit = append(i.Exit, api.Shape{Fn: someInt(r), PC: someInt(r), Slots: someOpnds(r, 4)})
	}
	return i
}

// someCode is register code, right or not.
func someCode(r *rand.Rand) api.Code {
	c := api.Code{Fn: someInt(r), Regs: someInt(r)}
	for range r.Intn(4) {
		b := api.Block{PC: someInt(r)}
		for range r.Intn(4) {
			b.Next = append(b.Next, someInt(r))
		}
		for range r.Intn(4) {
			b.Ins = append(b.Ins, someIns(r))
		}
		c.Blocks = append(c.Blocks, b)
	}
	return c
}

// sameCode tells whether two pieces of register code are the same, where no list and an empty one are.
func sameCode(c, d api.Code) bool {
	return c.Fn == d.Fn && c.Regs == d.Regs && slices.EqualFunc(c.Blocks, d.Blocks, func(a, b api.Block) bool {
		return a.PC == b.PC && slices.Equal(a.Next, b.Next) && slices.EqualFunc(a.Ins, b.Ins, sameIns)
	})
}

// sameIns is the same of instructions.
func sameIns(a, b api.RIns) bool {
	return a.Op == b.Op && a.Code == b.Code && a.Dst == b.Dst && a.N == b.N && a.PC == b.PC && a.Need == b.Need &&
		slices.Equal(a.Args, b.Args) && slices.EqualFunc(a.Exit, b.Exit, func(s, t api.Shape) bool {
		return s.Fn == t.Fn && s.PC == t.PC && slices.Equal(s.Slots, t.Slots)
	})
}

// copiedCode is register code that shares nothing with this one.
func copiedCode(c api.Code) api.Code {
	c.Blocks = slices.Clone(c.Blocks)
	for k := range c.Blocks {
		b := &c.Blocks[k]
		b.Next, b.Ins = slices.Clone(b.Next), slices.Clone(b.Ins)
		for j := range b.Ins {
			i := &b.Ins[j]
			i.Args, i.Exit = slices.Clone(i.Args), slices.Clone(i.Exit)
			for s := range i.Exit {
				i.Exit[s].Slots = slices.Clone(i.Exit[s].Slots)
			}
		}
	}
	return c
}
