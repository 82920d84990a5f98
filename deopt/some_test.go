package deopt

import (
	"math"
	"slices"
	"testing"

	"portage/api"
	"portage/sample"
)

func at(kind int, n int64) api.Opnd { return api.Opnd{Kind: kind, N: n} }

func whole(n int64) api.Value { return api.Value{Kind: api.Int, N: n} }

// regs are registers as operands.
func regs(l ...int64) []api.Opnd {
	var out []api.Opnd
	for _, n := range l {
		out = append(out, at(api.AtReg, n))
	}
	return out
}

// shape is one of a function, at a place.
func shape(fn, pc int, slots ...api.Opnd) api.Shape {
	return api.Shape{Fn: fn, PC: pc, Slots: slots}
}

// frame is one of a function, at a place.
func frame(fn, pc int, slots ...api.Value) api.Frame {
	return api.Frame{Fn: fn, PC: pc, Slots: slots}
}

// point is a point of some shapes.
func point(l ...api.Shape) api.RIns { return api.RIns{Op: api.RPoint, Dst: -1, Need: 1, Exit: l} }

// block is one of some instructions.
func block(pc int, l ...api.RIns) api.Block { return api.Block{PC: pc, Ins: l} }

// code is register code of function 1.
func code(n int, l ...api.Block) api.Code { return api.Code{Fn: 1, Regs: n, Blocks: l} }

// same tells whether two rows of frames are alike, where no list and an empty one are alike.
func same(a, b []api.Frame) bool {
	return slices.EqualFunc(a, b, func(x, y api.Frame) bool {
		return x.Fn == y.Fn && x.PC == y.PC && slices.Equal(x.Slots, y.Slots)
	})
}

// drawValue is any value, right or not.
func drawValue(r sample.Source) api.Value {
	if r.Intn(3) == 0 {
		return api.Value{Kind: sample.Edge(r), N: int64(sample.Edge(r))}
	}
	return api.Value{Kind: r.Intn(10), N: int64(r.Intn(9))}
}

// drawValues are n values at the most, without any now and then.
func drawValues(r sample.Source, n int) []api.Value {
	var l []api.Value
	for range r.Intn(n + 1) {
		l = append(l, drawValue(r))
	}
	return l
}

// reals are bits about which it turns whether they are right: infinite ones, NaNs and the one NaN.
func reals() []int64 {
	return []int64{
		0, 1, math.MinInt64, 0x7FF0000000000000, 0x7FF0000000000001, 0x7FF7FFFFFFFFFFFF, 0x7FF8000000000000, 0x7FF8000000000001,
		math.MaxInt64, -1, -1 << 52, -1<<52 + 1, -1<<52 - 1, -1 << 51, 0x7FEFFFFFFFFFFFFF, 0x3FF0000000000000,
	}
}

// drawOpnd is any operand: mostly one that stands for something.
func drawOpnd(r sample.Source) api.Opnd {
	switch r.Intn(16) {
	case 0:
		return at(sample.Edge(r), int64(sample.Edge(r)))
	case 1:
		return at(r.Intn(9)-1, int64(sample.Edge(r)))
	case 2:
		return at(api.AtReal, reals()[r.Intn(len(reals()))])
	case 3:
		return at(r.Intn(9)-1, int64(r.Intn(4)-1))
	case 4, 5, 6:
		return at([]int{api.AtBool, api.AtFunc, api.AtInt, api.AtConst}[r.Intn(4)], int64(r.Intn(2)))
	case 7:
		return at(api.AtNil, 0)
	}
	return at(api.AtReg, int64(r.Intn(4)))
}

// drawShapes are some shapes, of few slots each.
func drawShapes(r sample.Source) []api.Shape {
	var l []api.Shape
	for range r.Intn(4) {
		s := shape(sample.Edge(r), sample.Edge(r))
		for range r.Intn(5) {
			s.Slots = append(s.Slots, drawOpnd(r))
		}
		l = append(l, s)
	}
	return l
}

// drawCode is register code, right or nearly right, and a frame that mostly fits where one of its blocks begins.
func drawCode(r sample.Source) (api.Code, api.Frame) {
	few := r.Intn(6)
	c := api.Code{Fn: r.Intn(3), Regs: few}
	for range r.Intn(4) {
		var s []api.Opnd
		for range r.Intn(4) * min(few, 1) {
			s = append(s, at(api.AtReg, int64(r.Intn(few))))
		}
		pc := r.Intn(4)
		c.Blocks = append(c.Blocks, block(pc, point(shape(c.Fn, pc, s...)), api.RIns{Op: api.RLeave}))
	}
	f := frame(c.Fn, r.Intn(4), drawValues(r, 4)...)
	if len(c.Blocks) > 0 && r.Intn(8) > 0 {
		b := c.Blocks[r.Intn(len(c.Blocks))]
		f.PC, f.Slots = b.PC, nil
		for range b.Ins[0].Exit[0].Slots {
			f.Slots = append(f.Slots, drawValue(r))
		}
	}
	for range r.Intn(4) / 2 {
		sample.Spoil(r, &c)
	}
	return c, f
}

// framesOf are frames that have to be there.
func framesOf(t testing.TB, l []api.Shape, regs, consts []api.Value) []api.Frame {
	t.Helper()
	out, ok := Frames(l, regs, consts)
	if !ok {
		t.Fatal("no frames of", l)
	}
	return out
}
