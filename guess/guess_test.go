package guess

import (
	"math"
	"math/rand"
	"slices"
	"testing"

	"portage/api"
	"portage/lift"
	"portage/sample"
)

// The chapter's example, instruction by instruction.
func TestExample(t *testing.T) {
	x := sum()
	d := Run(api.Program{}, alone(x), seen(0, 2, api.Spot{A: 4, B: 4}))
	want := alone(x)
	want.Blocks[0].Ins = []api.RIns{
		{Op: api.RGuard, Dst: -1, Args: opnds(reg(1)), N: 2, PC: 2, Exit: sum().Exit},
		{Op: api.RGuard, Dst: -1, Args: opnds(at(api.AtInt, 5)), N: 2, PC: 2, Need: 4, Exit: sum().Exit},
		{Op: api.RPure, Code: api.OpAdd, Dst: 1, Args: opnds(reg(1), at(api.AtInt, 5)), N: 2, PC: 2},
	}
	if !sample.Same(d, want) {
		t.Errorf("%+v", d)
	}
}

// P21.1: the chapter's table, and what does not matter.
func TestKindExamples(t *testing.T) {
	for _, x := range []struct {
		op   int
		a, b uint16
		want int
	}{
		{api.OpAdd, 4, 4, 2}, {api.OpAdd, 8, 8, 3}, {api.OpAdd, 4, 8, -1}, {api.OpAdd, 8, 4, -1}, {api.OpAdd, 12, 4, -1},
		{api.OpAdd, 4, 12, -1}, {api.OpAdd, 12, 12, -1}, {api.OpAdd, 0, 0, -1}, {api.OpAdd, 4, 0, -1}, {api.OpAdd, 0, 4, -1},
		{api.OpDiv, 4, 4, -1}, {api.OpDiv, 8, 8, 3}, {api.OpNeg, 4, 8, 2}, {api.OpNeg, 4, 0, 2}, {api.OpNeg, 0, 4, -1}, {api.OpNeg, 8, 4, 3},
		{api.OpSqrt, 4, 0, -1}, {api.OpSqrt, 8, 1023, 3}, {api.OpCat, 4, 4, -1}, {api.OpCat, 16, 16, -1}, {api.OpRem, 4, 4, -1},
		{api.OpShl, 4, 4, -1}, {api.OpExt, 4, 4, -1}, {api.OpEq, 4, 4, -1}, {api.OpToInt, 4, 4, -1}, {api.OpLt, 16, 16, -1},
	} {
		for _, s := range []api.Spot{{}, {Count: 7, Callee: 3}, {Count: -1, Callee: -1}, {Count: math.MinInt64, Callee: math.MaxInt}} {
			s.A, s.B = x.a, x.b
			if got := Kind(x.op, s); got != x.want {
				t.Error(x, s, got)
			}
		}
	}
}

// P21.1: every operation, and numbers that are none, with all sets of kinds and such bits as no kind has.
func TestKindOfAll(t *testing.T) {
	for op := -3; op < api.Ops+3; op++ {
		of := map[uint16]int{4: meantKind(op, api.Spot{A: 4, B: 4}), 8: meantKind(op, api.Spot{A: 8, B: 8})}
		alone := map[uint16]int{4: meantKind(op, api.Spot{A: 4}), 8: meantKind(op, api.Spot{A: 8})}
		for a := range uint16(1 << 10) {
			for _, b := range []uint16{a, 0, 4, 8, 12, 1023, 4 + 1<<10} {
				want, ok := alone[a]
				if a == b {
					want, ok = of[a]
				}
				if got := Kind(op, api.Spot{A: a, B: b}); ok && got != want || !ok && got != -1 {
					t.Fatal(op, a, b, got, want)
				}
			}
		}
		for _, a := range []uint16{1 << 15, 4 + 1<<15, 8 + 1<<14, math.MaxUint16} {
			if got := Kind(op, api.Spot{A: a, B: a}); got != -1 {
				t.Error(op, a, got)
			}
		}
	}
	for _, op := range sample.Edges() {
		for _, s := range []api.Spot{{A: 4, B: 4}, {A: 8, B: 8}} {
			if got, want := Kind(op, s), meantKind(op, s); got != want {
				t.Error(op, s, got, want)
			}
		}
	}
}

// P21.2: each condition of a replaced instruction, at its edges.
func TestConditions(t *testing.T) {
	two := api.Spot{A: 4, B: 4}
	for _, c := range []struct {
		name string
		turn func(x *api.RIns)
		prof api.Profile
		want bool
	}{
		{"as it is", func(x *api.RIns) {}, seen(0, 2, two), true},
		{"no Exit", func(x *api.RIns) { x.Exit = nil }, seen(0, 2, two), false},
		{"an empty Exit", func(x *api.RIns) { x.Exit = []api.Shape{} }, seen(0, 2, two), false},
		{"no slots", func(x *api.RIns) { x.Exit[0].Slots = nil }, seen(0, 2, two), true},
		{"no Args", func(x *api.RIns) { x.Args = nil }, seen(0, 2, two), false},
		{"an arg fewer", func(x *api.RIns) { x.Args = x.Args[:1] }, seen(0, 2, two), false},
		{"an arg more", func(x *api.RIns) { x.Args = append(x.Args, reg(0)) }, seen(0, 2, two), false},
		{"neg of two", func(x *api.RIns) { x.Code = api.OpNeg }, seen(0, 2, two), false},
		{"neg of one", func(x *api.RIns) { x.Code, x.Args = api.OpNeg, x.Args[1:] }, seen(0, 2, two), true},
		{"neg of none", func(x *api.RIns) { x.Code, x.Args = api.OpNeg, nil }, seen(0, 2, two), false},
		{"another N", func(x *api.RIns) { x.N = 77 }, seen(0, 2, two), true},
		{"another Dst", func(x *api.RIns) { x.Dst = -5 }, seen(0, 2, two), true},
		{"another PC", func(x *api.RIns) { x.PC = 3 }, seen(0, 2, two), true},
		{"seen at the PC, not at the place", func(x *api.RIns) { x.PC = 3 }, seen(0, 3, two), false},
		{"another place", func(x *api.RIns) { x.Exit[0].PC = 1 }, seen(0, 2, two), false},
		{"another function", func(x *api.RIns) { x.Exit[0].Fn = 1 }, seen(0, 2, two), false},
		{"of another function", func(x *api.RIns) { x.Exit[0].Fn = 1 }, seen(1, 2, two), true},
		{"the last shape", func(x *api.RIns) { x.Exit = append(x.Exit, api.Shape{Fn: 1, PC: 7}) }, seen(1, 7, two), true},
		{"the first of two shapes", func(x *api.RIns) { x.Exit = append(x.Exit, api.Shape{Fn: 1, PC: 7}) }, seen(0, 2, two), false},
		{"the last of three shapes", func(x *api.RIns) { x.Exit = append(x.Exit, api.Shape{Fn: 1, PC: 7}, api.Shape{Fn: 2, PC: 1}) }, seen(2, 1, two), true},
		{"the code's function", func(x *api.RIns) { x.Exit[0].Fn = 1 }, seen(3, 2, two), false},
		{"Need 0", func(x *api.RIns) { x.Need = 0 }, seen(0, 2, two), true},
		{"Need below 0", func(x *api.RIns) { x.Need = math.MinInt }, seen(0, 2, two), true},
		{"another operation", func(x *api.RIns) { x.Code = api.OpRem }, seen(0, 2, two), false},
		{"no operation", func(x *api.RIns) { x.Code = api.Ops }, seen(0, 2, two), false},
		{"no operation below", func(x *api.RIns) { x.Code = -1 }, seen(0, 2, two), false},
		{"pure already", func(x *api.RIns) { x.Op = api.RPure }, seen(0, 2, two), false},
		{"a guard", func(x *api.RIns) { x.Op = api.RGuard }, seen(0, 2, two), false},
		{"a point", func(x *api.RIns) { x.Op = api.RPoint }, seen(0, 2, two), false},
		{"a leave", func(x *api.RIns) { x.Op = api.RLeave }, seen(0, 2, two), false},
		{"no Op", func(x *api.RIns) { x.Op = 0 }, seen(0, 2, two), false},
		{"reals", func(x *api.RIns) {}, seen(0, 2, api.Spot{A: 8, B: 8}), true},
		{"both", func(x *api.RIns) {}, seen(0, 2, api.Spot{A: 8, B: 4}), false},
		{"none", func(x *api.RIns) {}, seen(0, 2, api.Spot{Count: 9, Callee: 2}), false},
		{"a short profile", func(x *api.RIns) {}, seen(0, 1, two), false},
		{"a place below 0", func(x *api.RIns) { x.Exit[0].PC = -1 }, seen(0, 2, two), false},
		{"a function below 0", func(x *api.RIns) { x.Exit[0].Fn = -1 }, seen(0, 2, two), false},
		{"a function beyond", func(x *api.RIns) { x.Exit[0].Fn = math.MaxInt }, seen(0, 2, two), false},
	} {
		x := sum()
		c.turn(&x)
		d := Run(api.Program{}, alone(x), c.prof)
		if got := len(d.Blocks[0].Ins) > 1; got != c.want || !sample.Same(d, meant(alone(x), c.prof)) {
			t.Errorf("%s: %+v", c.name, d)
		}
	}
}

// P21.2: the order of operands, kinds and operations with all of them.
func TestEachOperation(t *testing.T) {
	for op := range api.Ops {
		for n := range 4 {
			for _, bits := range []uint16{4, 8} {
				x := api.RIns{Op: api.RPlain, Code: op, Dst: 6, Args: upTo(3, n), PC: 8, Need: 11, Exit: []api.Shape{{Fn: 1, PC: 2, Slots: upTo(0, 4)}}}
				prof := seen(1, 2, api.Spot{A: bits, B: bits})
				if d := Run(api.Program{}, alone(x), prof); !sample.Same(d, meant(alone(x), prof)) {
					t.Errorf("%d of %d: %+v", op, n, d)
				}
			}
		}
	}
}

// P21.2: several instructions of several blocks, some of which stay, in their order.
func TestManyAtOnce(t *testing.T) {
	p := parsed(t, "const real 5\nfunc main 0 1\nint 3\nagain:\nload 0\nadd\nconst 0\nmul\nneg\ndup\nfloor\nint 2\nlt\njnz out\nint 2\nrem\njump again\nout:\nret")
	f, c := factsOf(t, p), lifted(t, p, 0)
	prof := api.Profile{Funcs: [][]api.Spot{slices.Repeat([]api.Spot{{A: 4, B: 4}}, len(p.Funcs[0].Code))}}
	prof.Funcs[0][4], prof.Funcs[0][5] = api.Spot{A: 8, B: 8}, api.Spot{A: 8, B: 4}
	d := Run(p, c, prof)
	// add, neg and lt; mul of reals; floor is none of whole numbers, and rem none of either.
	if bets(c, d) != 4 || !sample.Same(d, meant(c, prof)) || lift.Check(p, f, d) != api.OK {
		t.Errorf("%d: %+v", bets(c, d), d)
	}
	if again := Run(p, d, prof); !sample.Same(again, d) {
		t.Errorf("once more: %+v", again)
	}
}

// P21.2: any code and profile, against the chapter's words.
func TestAsMeant(t *testing.T) {
	r := rand.New(rand.NewSource(212))
	made := 0
	for range 3000 {
		p := sample.Caller(r, 30)
		c := lifted(t, p, r.Intn(3))
		if r.Intn(2) == 0 {
			c = sample.Code(r, p, factsOf(t, p), c)
		}
		for range r.Intn(4) {
			sample.Spoil(r, &c)
		}
		prof := sample.Profile(r, p)
		d := Run(p, c, prof)
		if !sample.Same(d, meant(c, prof)) {
			t.Fatalf("%+v\nbecame\n%+v", c, d)
		}
		made += bets(c, d)
	}
	if made < 300 {
		t.Error("few bets:", made)
	}
}

// p is not looked at.
func TestProgramDoesNotMatter(t *testing.T) {
	r := rand.New(rand.NewSource(213))
	for range 300 {
		p := sample.Caller(r, 30)
		c, prof := lifted(t, p, r.Intn(3)), sample.Profile(r, p)
		d := Run(p, c, prof)
		if !sample.Same(Run(api.Program{}, c, prof), d) || !sample.Same(Run(sample.Program(r, 20), c, prof), d) {
			t.Fatal("it hangs on the program")
		}
	}
}
