package deopt

import (
	"math"
	"slices"
	"testing"

	"portage/api"
)

// P26.1: the chapter's examples, and each row of its table at its edges.
func TestValue(t *testing.T) {
	two := []api.Value{whole(7), {Kind: api.Bool, N: 1}}
	consts := []api.Value{{Kind: api.Text, N: 4}}
	for _, x := range []struct {
		o    api.Opnd
		want api.Value
		ok   bool
	}{
		{at(api.AtReg, 0), two[0], true}, {at(api.AtReg, 1), two[1], true}, {at(api.AtReg, 2), api.Value{}, false},
		{at(api.AtReg, -1), api.Value{}, false}, {at(api.AtReg, math.MaxInt64), api.Value{}, false}, {at(api.AtReg, 1<<32), api.Value{}, false},
		{at(api.AtNil, 0), api.Value{}, true}, {at(api.AtNil, 1), api.Value{}, false}, {at(api.AtNil, -1), api.Value{}, false},
		{at(api.AtBool, 0), api.Value{Kind: api.Bool}, true}, {at(api.AtBool, 1), two[1], true},
		{at(api.AtBool, 2), api.Value{}, false}, {at(api.AtBool, -1), api.Value{}, false}, {at(api.AtBool, 1<<32), api.Value{}, false},
		{at(api.AtInt, 0), whole(0), true}, {at(api.AtInt, math.MinInt64), whole(math.MinInt64), true}, {at(api.AtInt, math.MaxInt64), whole(math.MaxInt64), true},
		{at(api.AtConst, 0), consts[0], true}, {at(api.AtConst, 1), api.Value{}, false}, {at(api.AtConst, -1), api.Value{}, false},
		{at(api.AtFunc, 0), api.Value{Kind: api.Func}, true}, {at(api.AtFunc, -1), api.Value{}, false}, {at(api.AtFunc, math.MinInt64), api.Value{}, false},
		{at(api.AtFunc, math.MaxInt64), api.Value{Kind: api.Func, N: math.MaxInt64}, true},
		{at(7, 0), api.Value{}, false}, {at(-1, 0), api.Value{}, false}, {at(1<<32, 0), api.Value{}, false}, {at(math.MinInt, 0), api.Value{}, false},
	} {
		if v, ok := Value(x.o, two, consts); v != x.want || ok != x.ok {
			t.Error(x.o, "is", v, ok)
		}
	}
}

// P26.1: the bits of a NaN are those of the one NaN; all other reals are themselves.
func TestReals(t *testing.T) {
	for _, n := range reals() {
		right := !math.IsNaN(math.Float64frombits(uint64(n))) || n == 0x7FF8000000000000
		want := api.Value{Kind: api.Real, N: n}
		if !right {
			want = api.Value{}
		}
		if v, ok := Value(at(api.AtReal, n), nil, nil); v != want || ok != right {
			t.Errorf("%x is %v %v", uint64(n), v, ok)
		}
	}
}

// P26.1: whatever lies in a register or constant is told as it is, also where no machine would lay it.
func TestValueAsItLies(t *testing.T) {
	odd := []api.Value{{}, {Kind: -9, N: 3}, {Kind: api.Nil, N: 5}, {Kind: api.Real, N: -1}}
	for k, want := range odd {
		for _, o := range []api.Opnd{at(api.AtReg, int64(k)), at(api.AtConst, int64(k))} {
			if v, ok := Value(o, odd, odd); v != want || !ok {
				t.Error(o, "is", v, ok)
			}
		}
	}
}

// P26.2: the chapter's examples; shapes at places that no program has.
func TestFrames(t *testing.T) {
	two := []api.Value{whole(7), {Kind: api.Bool, N: 1}}
	l, ok := Frames([]api.Shape{shape(1, 5, at(api.AtReg, 0)), shape(2, 0, at(api.AtInt, 3), at(api.AtReg, 1))}, two, nil)
	if !ok || !same(l, []api.Frame{frame(1, 5, whole(7)), frame(2, 0, whole(3), two[1])}) {
		t.Error(l, ok)
	}
	l, ok = Frames([]api.Shape{shape(-1, math.MaxInt), shape(math.MinInt, -7, at(api.AtConst, 0), at(api.AtConst, 0))}, nil, two)
	if !ok || !same(l, []api.Frame{frame(-1, math.MaxInt), frame(math.MinInt, -7, whole(7), whole(7))}) {
		t.Error(l, ok)
	}
	if l, ok := Frames(nil, two, two); !ok || len(l) != 0 {
		t.Error("of none:", l, ok)
	}
}

// P26.2: one operand that stands for nothing, wherever it is: no frames.
func TestNoFrames(t *testing.T) {
	bad := []api.Opnd{at(api.AtReg, 1), at(api.AtConst, 0), at(api.AtNil, 2), at(api.AtBool, 2), at(api.AtReal, -1), at(api.AtFunc, -1), at(9, 0)}
	for _, o := range bad {
		for k := range 3 {
			for j := range 3 {
				l := []api.Shape{shape(0, 1, regs(0, 0, 0)...), shape(1, 2, regs(0, 0, 0)...), shape(2, 3, regs(0, 0, 0)...)}
				l[k].Slots[j] = o
				if out, ok := Frames(l, []api.Value{whole(1)}, nil); ok || len(out) != 0 {
					t.Error(o, "gives", out, ok)
				}
			}
		}
	}
}

// P26.3: the chapter's examples.
func TestRegisters(t *testing.T) {
	c := code(4, block(0), block(6, point(shape(1, 6, regs(0, 2)...))))
	nine := whole(9)
	l, b, ok := Registers(c, frame(1, 6, api.Value{}, nine))
	if !ok || b != 1 || !slices.Equal(l, []api.Value{{}, {}, nine, {}}) {
		t.Error(l, b, ok)
	}
	for _, f := range []api.Frame{frame(1, 6, nine), frame(1, 6), frame(1, 6, nine, nine, nine), frame(1, 5, nine, nine), frame(1, 0, nine, nine), frame(0, 6, nine, nine), frame(-1, 6, nine, nine)} {
		if l, b, ok := Registers(c, f); ok || b != 0 || len(l) != 0 {
			t.Error(f, "gives", l, b, ok)
		}
	}
}

// P26.3: how many registers there may be, from none on.
func TestRegs(t *testing.T) {
	for _, x := range []struct {
		n  int
		ok bool
	}{
		{math.MinInt, false}, {-1, false}, {0, false}, {2, false}, {3, true}, {4, true}, {api.MaxRegs, true},
		{api.MaxRegs + 1, false}, {math.MaxInt, false},
	} {
		c := code(x.n, block(6, point(shape(1, 6, regs(2, 0)...))))
		l, b, ok := Registers(c, frame(1, 6, whole(4), whole(5)))
		if ok != x.ok || b != 0 || ok && (len(l) != x.n || l[0] != whole(5) || l[1] != api.Value{} || l[2] != whole(4)) || !ok && len(l) != 0 {
			t.Error(x.n, "registers:", len(l), b, ok)
		}
	}
	if l, b, ok := Registers(code(0, block(6, point(shape(1, 6)))), frame(1, 6)); !ok || b != 0 || len(l) != 0 {
		t.Error("without registers:", l, b, ok)
	}
}

// P26.3: what a block begins with decides, and nothing behind it; of two blocks at one place the first.
func TestWhereABlockBegins(t *testing.T) {
	good := point(shape(1, 6, regs(0)...))
	other := good
	other.Op = api.RPlain
	for _, b := range []api.Block{
		block(6), block(6, other, good), block(6, point(), good), block(6, point(good.Exit[0], good.Exit[0]), good),
		block(6, api.RIns{Op: api.RLeave, Exit: good.Exit}), block(6, api.RIns{Exit: good.Exit}, good), block(6, point(shape(1, 6))),
	} {
		if l, k, ok := Registers(code(1, b, block(6, good)), frame(1, 6, whole(1))); ok || k != 0 || len(l) != 0 {
			t.Error(b, "gives", l, k, ok)
		}
	}
	c := code(2, block(5), block(6, point(shape(1, 6, regs(1)...))), block(6, good))
	if l, k, ok := Registers(c, frame(1, 6, whole(1))); !ok || k != 1 || !slices.Equal(l, []api.Value{{}, whole(1)}) {
		t.Error("two at one place:", l, k, ok)
	}
}

// P26.3: each slot is a register that is there; of two slots of one register the later one counts.
func TestSlots(t *testing.T) {
	for _, o := range []api.Opnd{at(api.AtReg, -1), at(api.AtReg, 4), at(api.AtReg, math.MinInt64), at(api.AtReg, 1<<32), at(api.AtNil, 0), at(api.AtInt, 1), at(api.AtConst, 0), at(-1, 0), at(7, 1)} {
		for k := range 3 {
			s := regs(0, 1, 2)
			s[k] = o
			if l, b, ok := Registers(code(4, block(0, point(shape(1, 0, s...)))), frame(1, 0, whole(1), whole(2), whole(3))); ok || b != 0 || len(l) != 0 {
				t.Error(o, "gives", l, b, ok)
			}
		}
	}
	c := code(3, block(0, point(shape(1, 0, regs(1, 0, 1)...))))
	if l, _, ok := Registers(c, frame(1, 0, whole(1), whole(2), whole(3))); !ok || !slices.Equal(l, []api.Value{whole(2), whole(3), {}}) {
		t.Error("twice one register:", l, ok)
	}
}

// P26.3: the function and the place that the shape says don't count, nor does what the frame holds; numbers below 0 are as good as others.
func TestWhatDoesNotCount(t *testing.T) {
	odd := api.Value{Kind: -5, N: math.MinInt64}
	c := code(1, block(-3, point(shape(88, 99, regs(0)...))))
	c.Fn = -2
	if l, b, ok := Registers(c, frame(-2, -3, odd)); !ok || b != 0 || !slices.Equal(l, []api.Value{odd}) {
		t.Error(l, b, ok)
	}
}
