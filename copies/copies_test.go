package copies

import (
	"math"
	"slices"
	"testing"

	"portage/api"
	"portage/sample"
)

// The chapter's examples, whole.
func TestExamples(t *testing.T) {
	five, null := at(api.AtInt, 5), at(api.AtNil, 0)
	jump := api.RIns{Op: api.RJump, Dst: -1, PC: 8}
	begin := point(regs(0, 1, 2, 3)...)
	add := func(dst int, l, exit []api.Opnd) api.RIns {
		return api.RIns{Op: api.RPlain, Code: api.OpAdd, Dst: dst, Args: l, PC: 2, Need: 4, Exit: []api.Shape{{Fn: 3, PC: 2, Slots: exit}}}
	}
	guard := func(o, exit api.Opnd) api.RIns {
		return api.RIns{Op: api.RGuard, Dst: -1, N: api.Int, Args: opnds(o), PC: 2, Exit: []api.Shape{{Fn: 3, PC: 2, Slots: opnds(exit)}}}
	}
	get := func(o api.Opnd) api.RIns {
		return api.RIns{Op: api.RPlain, Code: api.OpGet, Dst: 0, Args: opnds(o, reg(2)), PC: 2, Need: 1}
	}
	for k, x := range []struct{ in, want []api.RIns }{
		{
			[]api.RIns{move(1, reg(0)), move(2, reg(1)), add(3, regs(1, 2), regs(0, 1, 2))},
			[]api.RIns{move(1, reg(0)), move(2, reg(0)), add(3, regs(0, 0), regs(0, 0, 0))},
		},
		{[]api.RIns{move(1, five), move(2, reg(1)), guard(reg(2), reg(1))}, []api.RIns{move(1, five), move(2, five), guard(five, five)}},
		{[]api.RIns{move(1, reg(0)), move(0, null), move(2, reg(1))}, []api.RIns{move(1, reg(0)), move(0, null), move(2, reg(1))}},
		{[]api.RIns{move(1, reg(0)), move(0, reg(1)), move(2, reg(0))}, []api.RIns{move(1, reg(0)), move(2, reg(0))}},
		{[]api.RIns{move(3, reg(2)), move(2, reg(1)), move(1, reg(3))}, []api.RIns{move(3, reg(2)), move(2, reg(1)), move(1, reg(3))}},
		{[]api.RIns{move(1, reg(0)), get(reg(1)), move(3, reg(1))}, []api.RIns{move(1, reg(0)), get(reg(0)), move(3, reg(1))}},
	} {
		whole := func(l []api.RIns) api.Code { return block(slices.Concat([]api.RIns{begin}, l, []api.RIns{jump})...) }
		if d := Run(whole(x.in)); !sample.Same(d, whole(x.want)) || !sample.Same(d, meant(whole(x.in))) {
			t.Errorf("row %d: %+v", k, d)
		}
	}
}

// P22.1: what is known, by what is asked for behind some instructions.
func TestKnown(t *testing.T) {
	odd := func(op, dst int, l ...api.Opnd) api.RIns { return api.RIns{Op: op, Dst: dst, Args: l} }
	for _, x := range []struct {
		name string
		list []api.RIns
		ask  api.Opnd
		want api.Opnd
	}{
		{"nothing ahead", nil, reg(0), reg(0)},
		{"a copy", []api.RIns{move(1, reg(0))}, reg(1), reg(0)},
		{"its source", []api.RIns{move(1, reg(0))}, reg(0), reg(0)},
		{"another register", []api.RIns{move(1, reg(0))}, reg(2), reg(2)},
		{"a copy of a copy", []api.RIns{move(1, reg(0)), move(2, reg(1))}, reg(2), reg(0)},
		{"of many", []api.RIns{move(1, reg(0)), move(2, reg(1)), move(3, reg(2)), move(4, reg(3))}, reg(4), reg(0)},
		{"nil", []api.RIns{move(1, at(api.AtNil, 0))}, reg(1), at(api.AtNil, 0)},
		{"a bool", []api.RIns{move(1, at(api.AtBool, 1))}, reg(1), at(api.AtBool, 1)},
		{"an int", []api.RIns{move(1, at(api.AtInt, -7))}, reg(1), at(api.AtInt, -7)},
		{"a real", []api.RIns{move(1, at(api.AtReal, math.MinInt64))}, reg(1), at(api.AtReal, math.MinInt64)},
		{"a constant", []api.RIns{move(1, at(api.AtConst, 2))}, reg(1), at(api.AtConst, 2)},
		{"a function", []api.RIns{move(1, at(api.AtFunc, 1))}, reg(1), at(api.AtFunc, 1)},
		{"a kind that is none", []api.RIns{move(1, at(-9, 4))}, reg(1), at(-9, 4)},
		{"known, as itself", []api.RIns{move(1, at(api.AtInt, 1))}, at(api.AtInt, 1), at(api.AtInt, 1)},
		{"a number like a register's", []api.RIns{move(1, reg(0))}, at(api.AtInt, 1), at(api.AtInt, 1)},
		{"known of a number like a source's", []api.RIns{move(1, at(api.AtInt, 0)), pure(0)}, reg(1), at(api.AtInt, 0)},
		{"known of a number like its own", []api.RIns{move(1, at(api.AtInt, 1))}, reg(1), at(api.AtInt, 1)},
		{"written again", []api.RIns{move(1, reg(0)), pure(1)}, reg(1), reg(1)},
		{"moved again", []api.RIns{move(1, reg(0)), move(1, reg(2))}, reg(1), reg(2)},
		{"known again", []api.RIns{pure(1), move(1, at(api.AtInt, 3))}, reg(1), at(api.AtInt, 3)},
		{"the source written", []api.RIns{move(1, reg(0)), pure(0)}, reg(1), reg(1)},
		{"the source moved to", []api.RIns{move(1, reg(0)), move(0, reg(2))}, reg(1), reg(1)},
		{"the source known", []api.RIns{move(1, reg(0)), move(0, at(api.AtInt, 3))}, reg(1), reg(1)},
		{"the source written ahead", []api.RIns{pure(0), move(1, reg(0))}, reg(1), reg(0)},
		{"the source known ahead", []api.RIns{move(0, at(api.AtInt, 3)), move(1, reg(0))}, reg(1), at(api.AtInt, 3)},
		{"the source known ahead and written", []api.RIns{move(0, at(api.AtInt, 3)), move(1, reg(0)), pure(0)}, reg(1), at(api.AtInt, 3)},
		{"the source's copy written", []api.RIns{move(1, reg(0)), move(2, reg(1)), pure(1)}, reg(2), reg(0)},
		{"the source written, and moved anew", []api.RIns{move(1, reg(0)), pure(0), move(1, reg(0))}, reg(1), reg(0)},
		{"two copies, the source written between", []api.RIns{move(1, reg(0)), pure(0), move(2, reg(0))}, reg(1), reg(1)},
		{"two copies, the later one", []api.RIns{move(1, reg(0)), pure(0), move(2, reg(0))}, reg(2), reg(0)},
		{"back again", []api.RIns{move(1, reg(0)), move(0, reg(1))}, reg(1), reg(0)},
		{"back again, the source", []api.RIns{move(1, reg(0)), move(0, reg(1))}, reg(0), reg(0)},
		{"onto itself", []api.RIns{move(1, reg(1))}, reg(1), reg(1)},
		{"onto itself, a source", []api.RIns{move(1, reg(0)), move(0, reg(0))}, reg(1), reg(0)},
		{"onto itself, a copy", []api.RIns{move(1, reg(0)), move(1, reg(1))}, reg(1), reg(0)},
		{"swapped", []api.RIns{move(3, reg(2)), move(2, reg(1)), move(1, reg(3))}, reg(2), reg(2)},
		{"swapped, the other", []api.RIns{move(3, reg(2)), move(2, reg(1)), move(1, reg(3))}, reg(1), reg(3)},
		{"nothing written", []api.RIns{odd(api.RMove, -1, reg(0))}, reg(-1), reg(-1)},
		{"nothing written, a source", []api.RIns{move(1, reg(-1)), odd(api.RMove, -1, reg(0))}, reg(1), reg(-1)},
		{"a register below 0", []api.RIns{odd(api.RMove, -2, reg(0))}, reg(-2), reg(0)},
		{"a register beyond", []api.RIns{odd(api.RMove, math.MaxInt, reg(0))}, reg(math.MaxInt), reg(0)},
		{"a source below 0", []api.RIns{move(1, reg(-5))}, reg(1), reg(-5)},
		{"a source below 0 written", []api.RIns{move(1, reg(-5)), pure(-5)}, reg(1), reg(1)},
		{"a move of none", []api.RIns{odd(api.RMove, 1)}, reg(1), reg(1)},
		{"a move of two", []api.RIns{odd(api.RMove, 1, reg(0), reg(2))}, reg(1), reg(1)},
		{"a move of two of one", []api.RIns{odd(api.RMove, 1, reg(0), reg(0))}, reg(1), reg(1)},
		{"a move of none into a source", []api.RIns{move(1, reg(0)), odd(api.RMove, 0)}, reg(1), reg(1)},
		{"a move with all else", []api.RIns{{Op: api.RMove, Code: 7, Dst: 1, Args: regs(0), N: 9, Need: -4, Exit: make([]api.Shape, 2)}}, reg(1), reg(0)},
		{"a guard's Dst", []api.RIns{move(1, reg(0)), odd(api.RGuard, 0)}, reg(1), reg(1)},
		{"a jump's Dst", []api.RIns{move(1, reg(0)), odd(api.RJump, 1)}, reg(1), reg(1)},
		{"a Dst of no Op", []api.RIns{move(1, reg(0)), odd(77, 1, reg(3))}, reg(1), reg(1)},
		{"what is no move", []api.RIns{odd(api.RPure, 1, reg(0)), odd(0, 2, reg(0))}, reg(1), reg(1)},
		{"what has no Op", []api.RIns{odd(0, 1, reg(0))}, reg(1), reg(1)},
	} {
		in := block(append(x.list, point(x.ask))...)
		d := Run(in)
		l := d.Blocks[0].Ins
		if got := l[len(l)-1].Exit[0].Slots[0]; got != x.want || !sample.Same(d, meant(in)) {
			t.Errorf("%s: %+v of %+v", x.name, got, d)
		}
	}
}

// P22.1: each instruction that moves a register onto itself, turned as it is, goes, and no other one.
func TestLeftOut(t *testing.T) {
	odd := func(x api.RIns, turn func(x *api.RIns)) api.RIns { turn(&x); return x }
	for _, x := range []struct {
		name string
		list []api.RIns
		left int
	}{
		{"onto itself", []api.RIns{move(1, reg(1))}, 0},
		{"onto itself, twice", []api.RIns{move(1, reg(1)), move(1, reg(1))}, 0},
		{"another", []api.RIns{move(1, reg(2))}, 1},
		{"the same again", []api.RIns{move(1, reg(2)), move(1, reg(2))}, 2},
		{"back", []api.RIns{move(1, reg(2)), move(2, reg(1))}, 1},
		{"back over another", []api.RIns{move(1, reg(2)), move(3, reg(1)), move(2, reg(3))}, 2},
		{"turned away from itself", []api.RIns{move(1, reg(2)), move(1, reg(1))}, 2},
		{"known, onto itself", []api.RIns{move(1, at(api.AtInt, 1)), move(1, reg(1))}, 2},
		{"a number like its own", []api.RIns{move(1, at(api.AtInt, 1))}, 1},
		{"with all else", []api.RIns{{Op: api.RMove, Code: 7, Dst: 1, Args: regs(1), N: 9, Need: 4, Exit: make([]api.Shape, 2)}}, 0},
		{"below 0", []api.RIns{move(-2, reg(-2))}, 0},
		{"into none", []api.RIns{move(-1, reg(-1))}, 1},
		{"none", []api.RIns{odd(move(1, reg(1)), func(x *api.RIns) { x.Args = nil })}, 1},
		{"two", []api.RIns{odd(move(1, reg(1)), func(x *api.RIns) { x.Args = regs(1, 1) })}, 1},
		{"no move", []api.RIns{odd(move(1, reg(1)), func(x *api.RIns) { x.Op = api.RPure })}, 1},
		{"no Op", []api.RIns{odd(move(1, reg(1)), func(x *api.RIns) { x.Op = 0 })}, 1},
	} {
		in := block(x.list...)
		if d := Run(in); len(d.Blocks[0].Ins) != x.left || !sample.Same(d, meant(in)) {
			t.Errorf("%s: %+v", x.name, d)
		}
	}
}

// P22.1: what is turned are Args and the slots of all shapes, of any instruction; all else is as it was.
func TestTurned(t *testing.T) {
	for op := -1; op < 12; op++ {
		x := api.RIns{Op: op, Code: 5, Dst: 7, Args: regs(2, 1, 0, 1), N: 1, PC: 1, Need: 1, Exit: []api.Shape{
			{Fn: 1, PC: 1, Slots: regs(1, 0)}, {}, {Fn: 2, PC: 2, Slots: regs(3, 1, 1)},
		}}
		in := block(move(1, reg(0)), x)
		want := sample.Copied(in)
		want.Blocks[0].Ins[1].Args = regs(2, 0, 0, 0)
		want.Blocks[0].Ins[1].Exit[0].Slots = regs(0, 0)
		want.Blocks[0].Ins[1].Exit[2].Slots = regs(3, 0, 0)
		if d := Run(in); !sample.Same(d, want) {
			t.Errorf("of %d: %+v", op, d)
		}
	}
}

// P22.1: nothing is known where a block begins, whatever the blocks are called and wherever they lead.
func TestBlocksApart(t *testing.T) {
	one := api.Block{PC: 4, Ins: []api.RIns{move(1, reg(0)), point(reg(1))}, Next: []int{1}}
	other := api.Block{PC: 4, Ins: []api.RIns{point(reg(1)), move(2, reg(1)), point(reg(2))}}
	turned := sample.Copied(api.Code{Blocks: []api.Block{one, other}})
	turned.Blocks[0].Ins[1].Exit[0].Slots[0] = reg(0)
	turned.Blocks[1].Ins[2].Exit[0].Slots[0] = reg(1)
	c := api.Code{Blocks: []api.Block{one, other, {}, one, other, other}}
	want := api.Code{Blocks: []api.Block{turned.Blocks[0], turned.Blocks[1], {}, turned.Blocks[0], turned.Blocks[1], turned.Blocks[1]}}
	if d := Run(c); !sample.Same(d, want) {
		t.Errorf("%+v", d)
	}
	// A source that was written in another block.
	c = api.Code{Blocks: []api.Block{{Ins: []api.RIns{pure(3), pure(3), pure(0)}}, {Ins: []api.RIns{move(1, reg(0)), point(reg(1))}}}}
	if d := Run(c); d.Blocks[1].Ins[1].Exit[0].Slots[0] != reg(0) {
		t.Errorf("%+v", d)
	}
}

// P22.1: all lists of some instructions over three registers, by the chapter's words; and each asks for the same as it did (P22.2), once is enough (P22.3), and nobody asks for a copy (P22.5).
func TestAllShort(t *testing.T) {
	var each []api.RIns
	for dst := range 3 {
		for _, o := range append(regs(0, 1, 2), at(api.AtInt, 1)) {
			each = append(each, move(dst, o))
		}
		each = append(each, pure(dst, reg((dst+1)%3)))
	}
	each = append(each, point(regs(0, 1, 2)...))
	var more func(list []api.RIns)
	more = func(list []api.RIns) {
		if len(list) == 4 {
			c := block(append(list[:4:4], point(regs(0, 1, 2)...))...)
			d := Run(c)
			if !sample.Same(d, meant(c)) || !sample.Same(Run(d), d) || !sameWay(c.Blocks[0], d.Blocks[0], 3) || !asksForNone(d) {
				t.Fatalf("%+v became %+v", c, d)
			}
			return
		}
		for _, x := range each {
			more(append(list[:len(list):len(list)], x))
		}
	}
	more(nil)
}
