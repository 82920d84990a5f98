package deopt

import (
	"math/rand"
	"slices"
	"testing"

	"portage/api"
	"portage/sample"
)

// R7: as many registers as there may be, each one named; the greatest frame there is; one register more.
func TestGreatest(t *testing.T) {
	n := api.MaxRegs
	var slots []api.Opnd
	var values []api.Value
	for k := range n {
		slots = append(slots, at(api.AtReg, int64(n-1-k)))
		values = append(values, whole(int64(k)))
	}
	c := code(n, block(3, point(shape(1, 3, slots...))))
	f := frame(1, 3, values...)
	regs, b, ok := Registers(c, f)
	if !ok || b != 0 || len(regs) != n || regs[0] != whole(int64(n-1)) || regs[n-1] != whole(0) {
		t.Fatal("of all registers:", len(regs), b, ok)
	}
	if l := framesOf(t, c.Blocks[0].Ins[0].Exit, regs, nil); !same(l, []api.Frame{f}) {
		t.Error("they do not come back")
	}
	c.Regs++
	if regs, b, ok := Registers(c, f); ok || b != 0 || len(regs) != 0 {
		t.Error("of one more:", len(regs), b, ok)
	}
	full := make([]api.Value, api.MaxLocals+api.MaxHeight)
	for k := range full {
		full[k] = whole(int64(k))
	}
	slices.Reverse(slots)
	c = code(len(full)+1, block(3, point(shape(1, 3, slots[:len(full)]...))))
	regs, _, ok = Registers(c, frame(1, 3, full...))
	if !ok || !slices.Equal(regs, append(slices.Clone(full), api.Value{})) {
		t.Error("the greatest frame:", regs, ok)
	}
}

// R1: many shapes, slots, blocks, registers and constants; a slot that names one register many times.
func TestMany(t *testing.T) {
	const many = 1 << 20
	values := make([]api.Value, many)
	values[many-1] = whole(8)
	last := at(api.AtReg, many-1)
	if v, ok := Value(last, values, nil); !ok || v != whole(8) {
		t.Error("of many registers:", v, ok)
	}
	if v, ok := Value(at(api.AtConst, many-1), nil, values); !ok || v != whole(8) {
		t.Error("of many constants:", v, ok)
	}
	l, ok := Frames([]api.Shape{shape(1, 2, slices.Repeat([]api.Opnd{last}, many)...)}, values, nil)
	if !ok || len(l[0].Slots) != many || l[0].Slots[77] != whole(8) {
		t.Error("of many slots:", ok)
	}
	shapes := slices.Repeat([]api.Shape{shape(1, 2, last, last)}, many)
	if l, ok := Frames(shapes, values, nil); !ok || len(l) != many || l[many-1].Slots[1] != whole(8) {
		t.Error("of many shapes:", ok)
	}
	shapes[many-1] = shape(1, 2, at(api.AtReg, many))
	if l, ok := Frames(shapes, values, nil); ok || len(l) != 0 {
		t.Error("the last of many stands for nothing:", ok)
	}
	enter := point(shape(1, 7, slices.Repeat(regs(1), many)...))
	c := code(2, append(make([]api.Block, many), block(7, enter))...)
	if l, b, ok := Registers(c, frame(1, 7, values...)); !ok || b != many || !slices.Equal(l, []api.Value{{}, whole(8)}) {
		t.Error("of many blocks:", l, b, ok)
	}
}

// R1 and R2: numbers at all edges, wherever one stands; beside a false is nothing.
func TestMonstrousNumbers(t *testing.T) {
	r := rand.New(rand.NewSource(1))
	edge := func() int { return sample.Edge(r) }
	opnds := func() []api.Opnd {
		var l []api.Opnd
		for range r.Intn(4) {
			l = append(l, at([]int{api.AtReg, r.Intn(8), edge()}[r.Intn(3)], int64(edge())))
		}
		return l
	}
	none := 0
	for range 20000 {
		x := api.RIns{Op: []int{api.RPoint, api.RPoint, edge()}[r.Intn(3)]}
		for range 1 + r.Intn(5)/4 {
			x.Exit = append(x.Exit, shape(edge(), edge(), opnds()...))
		}
		c := api.Code{Fn: edge(), Regs: edge(), Blocks: []api.Block{block(edge(), x), block(edge())}}
		f := frame(c.Fn, c.Blocks[r.Intn(2)].PC, make([]api.Value, r.Intn(4))...)
		values := drawValues(r, 70)
		if l, b, ok := Registers(c, f); !ok && (b != 0 || len(l) != 0) || ok && len(l) != c.Regs {
			t.Fatal(f, "of", c, "gives", l, b, ok)
		}
		if l, ok := Frames(x.Exit, values, values); !ok && len(l) != 0 || ok && len(l) != len(x.Exit) {
			t.Fatal(x.Exit, "gives", l, ok)
		}
		for _, o := range opnds() {
			if v, ok := Value(o, values, values); !ok {
				none++
				if v != (api.Value{}) {
					t.Fatal(o, "gives", v, ok)
				}
			}
		}
	}
	if none < 5000 {
		t.Error("few were nothing:", none)
	}
}
