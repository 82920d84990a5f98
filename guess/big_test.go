package guess

import (
	"math/rand"
	"slices"
	"strings"
	"testing"

	"portage/api"
	"portage/lift"
	"portage/sample"
)

// R7: a function of as many instructions as there may be, nearly all of them bets, over a frame of as many locals and values as there may be.
func TestGreatest(t *testing.T) {
	p := parsed(t, "func main 0 64\n"+strings.Repeat("int 1\n", 64)+strings.Repeat("neg\n", api.MaxCode-64-64)+strings.Repeat("add\n", 63)+"ret")
	f, c := factsOf(t, p), lifted(t, p, 0)
	prof := betting(p, 4)
	d := Run(p, c, prof)
	if len(p.Funcs[0].Code) != api.MaxCode || bets(c, d) != api.MaxCode-64-1 || !sample.Same(d, meant(c, prof)) || lift.Check(p, f, d) != api.OK {
		t.Fatal(len(p.Funcs[0].Code), bets(c, d))
	}
	frame := api.Frame{Slots: make([]api.Value, 64)}
	left := trial{p, api.Limits{Fuel: api.MaxCode}, api.State{}, d, frame, 99, -1}.meets(t)
	if left.Why != api.LeftCode || left.Steps != api.MaxCode-1 || left.Frames[0].Slots[64] != whole(64) {
		t.Error(left)
	}
}

// R1: register code of any numbers of blocks, instructions, operands and shapes.
func TestMany(t *testing.T) {
	prof := seen(0, 2, api.Spot{A: 4, B: 4})
	c := alone(sum())
	c.Blocks = slices.Repeat(c.Blocks, 1<<16)
	if d := Run(api.Program{}, c, prof); len(d.Blocks) != 1<<16 || len(d.Blocks[1<<15].Ins) != 3 {
		t.Error(len(d.Blocks))
	}
	c = alone(sum())
	c.Blocks[0].Ins = slices.Repeat(c.Blocks[0].Ins, 1<<16)
	if d := Run(api.Program{}, c, prof); len(d.Blocks[0].Ins) != 3<<16 {
		t.Error(len(d.Blocks[0].Ins))
	}
	x := sum()
	x.Args = make([]api.Opnd, 1<<20)
	if d := Run(api.Program{}, alone(x), prof); !sample.Same(d, alone(x)) {
		t.Error("of many operands")
	}
	x = sum()
	x.Exit[0].Slots = make([]api.Opnd, 1<<20)
	x.Exit = append(make([]api.Shape, 1<<16), x.Exit...)
	if d := Run(api.Program{}, alone(x), prof); !sample.Same(d, meant(alone(x), prof)) || len(d.Blocks[0].Ins) != 3 {
		t.Error("of many shapes")
	}
}

// R1: numbers at all edges, wherever one stands.
func TestMonstrousNumbers(t *testing.T) {
	r := rand.New(rand.NewSource(1))
	made := 0
	for range 30000 {
		x := sum()
		x.Op = []int{api.RPlain, api.RPlain, api.RPlain, sample.Edge(r)}[r.Intn(4)]
		x.Code = []int{api.OpAdd, api.OpSqrt, r.Intn(api.Ops), sample.Edge(r)}[r.Intn(4)]
		x.Args = slices.Repeat([]api.Opnd{at(sample.Edge(r), int64(sample.Edge(r)))}, r.Intn(4))
		x.Dst, x.N, x.PC, x.Need = sample.Edge(r), int64(sample.Edge(r)), sample.Edge(r), sample.Edge(r)
		for range r.Intn(3) {
			x.Exit = append(x.Exit, api.Shape{Fn: r.Intn(2), PC: r.Intn(4), Slots: upTo(sample.Edge(r), r.Intn(3))})
		}
		last := &x.Exit[len(x.Exit)-1]
		if r.Intn(4) == 0 {
			last.Fn = sample.Edge(r)
		}
		if r.Intn(4) == 0 {
			last.PC = sample.Edge(r)
		}
		c := alone(x)
		c.Fn, c.Regs, c.Blocks[0].PC, c.Blocks[0].Next = sample.Edge(r), sample.Edge(r), sample.Edge(r), []int{sample.Edge(r)}
		bits := uint16(4 << r.Intn(3))
		s := api.Spot{Count: int64(sample.Edge(r)), A: bits, B: bits, Callee: sample.Edge(r)}
		prof := api.Profile{Funcs: [][]api.Spot{slices.Repeat([]api.Spot{s}, r.Intn(6)), slices.Repeat([]api.Spot{s}, r.Intn(6))}}
		d := Run(api.Program{}, c, prof)
		if !sample.Same(d, meant(c, prof)) {
			t.Fatalf("%+v became %+v", c, d)
		}
		made += bets(c, d)
	}
	if made < 300 {
		t.Error("few bets:", made)
	}
	if d := Run(api.Program{}, api.Code{}, betting(parsed(t, "func main 0 0\nnil\nret"), 4)); !sample.Same(d, api.Code{}) {
		t.Error("of no code:", d)
	}
	if d := Run(api.Program{}, api.Code{Blocks: make([]api.Block, 2)}, api.Profile{}); len(d.Blocks) != 2 {
		t.Error("of empty blocks:", d)
	}
}
