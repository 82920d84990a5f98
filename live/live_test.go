package live

import (
	"math"
	"slices"
	"testing"

	"portage/api"
	"portage/lift"
	"portage/sample"
)

// example is the chapter's.
func example() api.Code {
	return code(
		leads(list(move(2, reg(0)), pure(3, reg(2), at(api.AtInt, 5)), move(2, at(api.AtNil, 0)), point(0, 2), jump()), 1),
		list(point(0, 1), api.RIns{Op: api.RLeave, Dst: -1, Exit: point(0, 1).Exit}),
	)
}

func TestExamples(t *testing.T) {
	for _, x := range []struct {
		block, ins int
		want       []int
	}{
		{0, 4, []int{0, 1}}, {0, 3, []int{0, 1}}, {0, 2, []int{0, 1, 2}}, {0, 1, []int{0, 1}}, {0, 0, []int{0, 1}}, {1, 0, []int{0, 1}}, {1, 1, nil},
		{0, 5, nil}, {0, -1, nil}, {1, 2, nil}, {1, -1, nil}, {2, 0, nil}, {-1, 0, nil}, {math.MaxInt, math.MaxInt, nil}, {math.MinInt, math.MinInt, nil}, {0, math.MaxInt, nil}, {0, math.MinInt, nil}, {math.MaxInt, 0, nil}, {math.MinInt, 0, nil},
	} {
		if got := After(example(), x.block, x.ins); !slices.Equal(got, x.want) {
			t.Errorf("After(%d, %d) is %v", x.block, x.ins, got)
		}
	}
	want := example()
	want.Blocks[0].Ins = want.Blocks[0].Ins[2:]
	if d := obeys(t, example()); !sample.Same(d, want) {
		t.Errorf("%+v", d)
	}
	for _, c := range []api.Code{{}, code(), code(api.Block{}), code(leads(api.Block{}, 0)), {Fn: -1, Regs: -7, Blocks: []api.Block{leads(list(), -1, 3)}}} {
		if d := obeys(t, c); !sample.Same(d, c) || After(c, 0, 0) != nil || After(c, -1, -1) != nil {
			t.Errorf("%+v became %+v", c, d)
		}
	}
}

// P24.1 and P24.2: one instruction, r1 being asked for behind it and r2 not: what is asked for ahead of it, and whether it stays.
func TestOne(t *testing.T) {
	odd := func(op, dst int, l ...api.Opnd) api.RIns { return api.RIns{Op: op, Dst: dst, Args: l, Need: 1} }
	exit := func(x api.RIns, l ...int) api.RIns {
		x.Exit = append(x.Exit, api.Shape{Slots: regs(l...)})
		return x
	}
	for _, x := range []struct {
		name  string
		ins   api.RIns
		ahead []int
		stays bool
	}{
		{"a move into what is asked for", move(1, reg(3)), []int{3}, true},
		{"a move into what is not", move(2, reg(3)), []int{1}, false},
		{"a move of what is known", move(1, at(api.AtInt, 3)), nil, true},
		{"a move of nil", move(1, at(api.AtNil, 0)), nil, true},
		{"a move of a bool", move(1, at(api.AtBool, 1)), nil, true},
		{"a move of a real", move(1, at(api.AtReal, 1)), nil, true},
		{"a move of a constant", move(1, at(api.AtConst, 3)), nil, true},
		{"a move of a function", move(1, at(api.AtFunc, 3)), nil, true},
		{"a move of no kind", move(1, at(7, 3)), nil, true},
		{"a move of a kind below 0", move(1, at(-1, 3)), nil, true},
		{"a move of what is known into what is not asked for", move(2, at(api.AtInt, 3)), []int{1}, false},
		{"a move onto itself", move(1, reg(1)), []int{1}, true},
		{"a move onto itself of what is not asked for", move(2, reg(2)), []int{1}, false},
		{"a move out of what is asked for", move(2, reg(1)), []int{1}, false},
		{"a move of none", odd(api.RMove, 1), nil, true},
		{"a move of two", odd(api.RMove, 1, regs(2, 3)...), []int{2, 3}, true},
		{"a move into none", odd(api.RMove, -1, reg(3)), []int{1}, false},
		{"a move of two into what is not asked for", odd(api.RMove, 2, regs(2, 3)...), []int{1}, false},
		{"a move below 0", odd(api.RMove, -2, reg(3)), []int{1}, false},
		{"a move far below 0", odd(api.RMove, math.MinInt, reg(3)), []int{1}, false},
		{"a move beyond all", odd(api.RMove, api.MaxRegs, reg(3)), []int{1}, false},
		{"a move a round beyond", odd(api.RMove, api.MaxRegs+1, reg(3)), []int{1}, false},
		{"a move far beyond all", odd(api.RMove, math.MaxInt, reg(3)), []int{1}, false},
		{"a move with all else", exit(api.RIns{Op: api.RMove, Code: 5, Dst: 1, N: 7, Need: 9}, 3, 4), []int{3, 4}, true},
		{"a move with all else into what is not asked for", exit(api.RIns{Op: api.RMove, Code: 5, Dst: 2, N: 7, Need: 9}, 3, 4), []int{1}, false},
		{"pure", pure(1, regs(3, 0)...), []int{0, 3}, true},
		{"pure of what it writes", pure(1, regs(1, 3)...), []int{1, 3}, true},
		{"pure of one twice", pure(1, regs(3, 3)...), []int{3}, true},
		{"pure into what is not asked for", pure(2, regs(3, 0)...), []int{1}, false},
		{"pure of none", pure(1), nil, true},
		{"pure of none into what is not asked for", pure(2), []int{1}, false},
		{"pure of no operation into what is not asked for", api.RIns{Op: api.RPure, Code: 77, Dst: 2, N: 9}, []int{1}, false},
		{"pure into none", odd(api.RPure, -1, reg(3)), []int{1}, false},
		{"plain", plain(1, regs(3)...), []int{3}, true},
		{"plain into what is not asked for", plain(2, regs(3)...), []int{1, 3}, true},
		{"plain of nothing into what is not asked for", plain(2), []int{1}, true},
		{"plain into none", plain(-1, regs(3)...), []int{1, 3}, true},
		{"plain with an Exit", exit(plain(1, regs(3)...), 1, 2), []int{1, 2, 3}, true},
		{"plain beyond all", plain(api.MaxRegs+1, regs(3)...), []int{1, 3}, true},
		{"a guard", exit(odd(api.RGuard, -1, reg(3)), 0, 2), []int{0, 1, 2, 3}, true},
		{"a guard with a Dst", odd(api.RGuard, 1, reg(3)), []int{3}, true},
		{"a guard with a Dst that is not asked for", odd(api.RGuard, 2, reg(3)), []int{1, 3}, true},
		{"a callee", exit(odd(api.RCallee, -1, reg(3)), 0, 2), []int{0, 1, 2, 3}, true},
		{"a point of two shapes", exit(point(0, 5), 6), []int{0, 1, 5, 6}, true},
		{"a point with a Dst", odd(api.RPoint, 1), nil, true},
		{"a jump with a Dst and operands", odd(api.RJump, 1, reg(4)), []int{4}, true},
		{"a branch", odd(api.RBranch, -1, reg(4)), []int{1, 4}, true},
		{"a leave in the midst", exit(odd(api.RLeave, -1), 4), []int{1, 4}, true},
		{"no Op", odd(0, 1, reg(3)), []int{3}, true},
		{"no Op, into what is not asked for", odd(0, 2, reg(3)), []int{1, 3}, true},
		{"no Op that there is", odd(77, 2, reg(3)), []int{1, 3}, true},
		{"an Op below 0", odd(-1, 2, reg(3)), []int{1, 3}, true},
		{"registers that are none", plain(2, regs(-1, api.MaxRegs, api.MaxRegs+1, math.MaxInt, math.MinInt)...), []int{1}, true},
		{"slots that are none", exit(plain(2), -1, api.MaxRegs, math.MaxInt, math.MinInt, -api.MaxRegs), []int{1}, true},
		{"the last register", plain(2, regs(api.MaxRegs-1)...), []int{1, api.MaxRegs - 1}, true},
	} {
		c := code(list(jump(), x.ins, point(1)))
		d := obeys(t, c)
		if got := After(c, 0, 0); !slices.Equal(got, x.ahead) || (len(d.Blocks[0].Ins) == 3) != x.stays {
			t.Errorf("%s: %v, %+v", x.name, got, d)
		}
	}
}

// P24.1: each register is told by itself, those at the edges of words too.
func TestEachRegister(t *testing.T) {
	var all []int
	for k := range api.MaxRegs {
		all = append(all, k)
		c := code(list(jump(), move(k, reg((k+1)%api.MaxRegs)), point(k)))
		if got, want := After(c, 0, 0), []int{(k + 1) % api.MaxRegs}; !slices.Equal(got, want) || !slices.Equal(After(c, 0, 1), []int{k}) {
			t.Error(k, "asks for", got)
		}
		c.Blocks[0].Ins[1].Dst ^= 64
		if d := obeys(t, c); len(d.Blocks[0].Ins) != 2 {
			t.Error(k, "is what another one is")
		}
	}
	c := code(list(jump(), point(all...)), leads(list(pure(7, reg(3)), move(8, reg(2))), 0))
	if got := After(c, 0, 0); !slices.Equal(got, all) {
		t.Error("of all:", got)
	}
	if got := After(c, 1, 0); !slices.Equal(got, slices.Concat(all[:8], all[9:])) {
		t.Error("of all but one:", got)
	}
	slices.Reverse(c.Blocks[0].Ins[1].Exit[0].Slots)
	if got := After(c, 0, 0); !slices.Equal(got, all) {
		t.Error("not rising:", got)
	}
}

// P24.1 and P24.2: ways from block to block; told is what is wanted behind the first instruction of the first block, and how many instructions stay.
func TestWays(t *testing.T) {
	empty, first := list(), list(jump())
	for _, x := range []struct {
		name   string
		blocks []api.Block
		told   []int
		stay   int
	}{
		{"behind it", []api.Block{leads(first, 1), list(point(4))}, []int{4}, 2},
		{"behind it, several", []api.Block{leads(first, 1, 2), list(point(4)), list(point(2))}, []int{2, 4}, 3},
		{"behind it, more than two", []api.Block{leads(first, 1, 2, 3, 4), list(point(4)), list(point(2)), list(point(1)), list(point(3))}, []int{1, 2, 3, 4}, 5},
		{"the same twice", []api.Block{leads(first, 1, 1), list(point(4))}, []int{4}, 2},
		{"not behind it", []api.Block{leads(first), list(point(4))}, nil, 2},
		{"ahead of it", []api.Block{first, leads(list(point(4)), 0)}, nil, 2},
		{"no block", []api.Block{leads(first, -1, 2, math.MaxInt, math.MinInt), list(point(4))}, nil, 2},
		{"no block, and one", []api.Block{leads(first, -1, 1, 2), list(point(4))}, []int{4}, 2},
		{"over one", []api.Block{leads(first, 1), leads(list(jump()), 2), list(point(4))}, []int{4}, 3},
		{"over an empty one", []api.Block{leads(first, 1), leads(empty, 2), list(point(4))}, []int{4}, 2},
		{"over empty ones", []api.Block{leads(first, 3), list(point(4)), leads(empty, 1), leads(empty, 2)}, []int{4}, 2},
		{"over an empty one, several", []api.Block{leads(first, 1), leads(empty, 2, 3, 9), list(point(4)), list(point(3))}, []int{3, 4}, 3},
		{"over a ring of empty ones", []api.Block{leads(first, 1), leads(empty, 2), leads(empty, 1, 3), list(point(4))}, []int{4}, 2},
		{"a ring of empty ones", []api.Block{leads(first, 1), leads(empty, 2), leads(empty, 1)}, nil, 1},
		{"over one that becomes empty", []api.Block{leads(first, 1), leads(list(move(3, reg(2)), pure(1, reg(3))), 2), list(point(4))}, []int{4}, 2},
		{"over one that writes it", []api.Block{leads(first, 1), leads(list(move(4, reg(2))), 2), list(point(4))}, []int{2}, 3},
		{"over one that asks, and writes", []api.Block{leads(first, 1), leads(list(point(4), move(4, reg(2))), 2), list(point(4))}, []int{2, 4}, 4},
		{"round, asked for", []api.Block{leads(list(jump(), move(2, reg(1)), point(4), move(4, reg(2))), 0)}, []int{1, 4}, 4},
		{"round, asked for by itself alone", []api.Block{leads(list(jump(), pure(1, reg(1))), 0)}, nil, 1},
		{"round, asked for by one another alone", []api.Block{leads(list(jump(), pure(1, reg(2)), pure(3, reg(1)), pure(2, reg(3))), 0)}, nil, 1},
		{"round over two, by one another alone", []api.Block{leads(list(jump(), pure(1, reg(2))), 1), leads(list(pure(2, reg(1))), 0)}, nil, 1},
		{"round, by one another and in the end", []api.Block{leads(list(jump(), pure(1, reg(2))), 1), leads(list(pure(2, reg(1))), 0, 2), list(point(2))}, []int{2}, 4},
		{"round, carried on", []api.Block{leads(list(jump(), move(1, reg(2)), move(2, reg(3)), move(3, reg(4)), move(4, reg(5))), 0, 1), list(point(1))}, []int{2, 3, 4, 5}, 6},
		{"round, carried on against the way", []api.Block{leads(list(jump(), move(4, reg(5)), move(3, reg(4)), move(2, reg(3)), move(1, reg(2))), 0, 1), list(point(1))}, []int{5}, 6},
		{"written on one of two ways", []api.Block{leads(first, 1, 2), leads(list(move(4, reg(1))), 3), leads(list(move(5, reg(1))), 3), list(point(4))}, []int{1, 4}, 3},
		{"asked for on one of two ways", []api.Block{leads(list(jump(), move(3, reg(1)), move(4, reg(2))), 1, 2), list(move(3, reg(0))), list(point(3))}, []int{1}, 3},
		{"behind a leave that leads on", []api.Block{leads(list(jump(), api.RIns{Op: api.RLeave, Dst: -1}), 1), list(point(4))}, []int{4}, 3},
		{"behind a jump in the midst", []api.Block{list(jump(), jump(), point(4))}, []int{4}, 3},
		{"nothing leads there", []api.Block{first, leads(list(move(2, reg(3)), move(3, reg(2))), 2), list(point(3))}, nil, 4},
	} {
		c := code(x.blocks...)
		d := obeys(t, c)
		if got := After(c, 0, 0); !slices.Equal(got, x.told) || size(d) != x.stay {
			t.Errorf("%s: %v, %+v", x.name, got, d)
		}
	}
}

// P24.1 to P24.4: all lists of some instructions over three registers, ending, and leading back.
func TestAllShort(t *testing.T) {
	var each []api.RIns
	for dst := range 3 {
		for from := range 3 {
			each = append(each, move(dst, reg(from)))
		}
		each = append(each, move(dst, at(api.AtInt, 1)), pure(dst, regs((dst+1)%3, (dst+2)%3)...), point(dst))
	}
	each = append(each, plain(1, reg(2)))
	var more func(l []api.RIns)
	more = func(l []api.RIns) {
		if len(l) < 3 {
			for _, x := range each {
				more(append(l[:len(l):len(l)], x))
			}
			return
		}
		obeys(t, code(list(append(l[:3:3], point(0, 1))...)))
		obeys(t, code(leads(list(l...), 0)))
		obeys(t, code(leads(list(l[:2]...), 1), leads(list(l[2]), 0)))
	}
	more(nil)
}

// P24.2 and P24.5, as a program tells it: values that are dropped are not made, but those whose making may trap.
func TestLifted(t *testing.T) {
	p := parsed(t, "func main 0 2\nint 1\npop\nload 0\nload 1\neq\npop\nload 0\nload 1\nadd\npop\nint 7\nstore 1\nload 0\nret")
	c := lifted(t, p, 0)
	d := obeys(t, c)
	var ops []int
	for _, x := range d.Blocks[0].Ins {
		ops = append(ops, x.Op)
	}
	if want := []int{api.RPoint, api.RMove, api.RMove, api.RPlain, api.RMove, api.RMove, api.RMove, api.RLeave}; !slices.Equal(ops, want) || lift.Check(p, factsOf(t, p), d) != api.OK {
		t.Error(ops)
	}
	if d.Fn != c.Fn || d.Regs != c.Regs || lift.Steps(d.Blocks[0]) != lift.Steps(c.Blocks[0]) {
		t.Errorf("%+v", d)
	}
}
