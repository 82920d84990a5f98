package copies

import (
	"math/rand"
	"slices"
	"strconv"
	"strings"
	"testing"

	"portage/api"
	"portage/lift"
	"portage/sample"
)

// R7: functions of as many instructions as there may be, over a frame of as many locals and values as there may be: one that carries values from local to local, one that lays them upon one another.
func TestGreatest(t *testing.T) {
	var moves, copied strings.Builder
	for k := range (api.MaxCode - 2) / 2 {
		moves.WriteString("load " + strconv.Itoa(k%64) + "\nstore " + strconv.Itoa(k*7%64) + "\n")
	}
	copied.WriteString("load 3\n" + strings.Repeat("dup\n", 63) + strings.Repeat("store 5\nload 3\n", (api.MaxCode-64-64)/2) + strings.Repeat("add\n", 63) + "ret")
	for k, text := range []string{moves.String() + "load 9\nret", copied.String()} {
		p := parsed(t, "func main 0 64\n"+text)
		f, c := factsOf(t, p), lifted(t, p, 0)
		d := obeys(t, c)
		if len(p.Funcs[0].Code) != api.MaxCode || lift.Check(p, f, d) != api.OK {
			t.Fatal(k, len(p.Funcs[0].Code))
		}
		frame := api.Frame{Slots: make([]api.Value, 64)}
		for i := range frame.Slots {
			frame.Slots[i] = api.Value{Kind: api.Int, N: int64(i)}
		}
		x := trial{p, api.Limits{Fuel: api.MaxCode}, api.State{}, d, frame, 99, -1}
		x.same(t, c)
		if left := x.meets(t); left.Why != api.LeftCode || left.Steps != api.MaxCode-1 {
			t.Error(k, left)
		}
	}
}

// R1: register code of any numbers of blocks, instructions, registers, operands and shapes: the answer takes about as long as what is asked is great.
func TestMany(t *testing.T) {
	const many = 1 << 17
	var l []api.RIns
	for k := 1; k < many; k++ {
		l = append(l, move(k, reg(0)))
	}
	// All of them are copies of one register, which is written again and again.
	for range many {
		l = append(l, pure(0, reg(many-1)))
	}
	l = append(l, point(regs(1, many-1)...))
	d := Run(block(l...))
	if got := d.Blocks[0].Ins; len(got) != len(l) || got[many-1].Args[0] != reg(0) || got[many].Args[0] != reg(many-1) || !slices.Equal(got[len(l)-1].Exit[0].Slots, regs(1, many-1)) {
		t.Error("of many copies")
	}
	// Each is a copy of the one ahead of it.
	l = nil
	for k := 1; k < many; k++ {
		l = append(l, move(k, reg(k-1)))
	}
	d = Run(block(append(l, point(regs(many-1)...))...))
	if got := d.Blocks[0].Ins; got[many-1].Exit[0].Slots[0] != reg(0) || got[many-2].Args[0] != reg(0) {
		t.Error("of a long way")
	}
	c := block(l...)
	c.Blocks = append(c.Blocks, slices.Repeat([]api.Block{{Ins: []api.RIns{move(1, reg(0)), point(reg(1), reg(2))}}}, many)...)
	d = Run(c)
	if len(d.Blocks) != many+1 || !slices.Equal(d.Blocks[many].Ins[1].Exit[0].Slots, regs(0, 2)) {
		t.Error("of many blocks")
	}
	x := point(slices.Repeat(regs(1), 8*many)...)
	x.Args = slices.Repeat(regs(1), 8*many)
	x.Exit = append(make([]api.Shape, many), x.Exit...)
	d = Run(block(move(1, reg(0)), x))
	if got := d.Blocks[0].Ins[1]; len(got.Exit) != many+1 || got.Args[8*many-1] != reg(0) || got.Exit[many].Slots[8*many-1] != reg(0) {
		t.Error("of many operands")
	}
	if d := Run(block(slices.Repeat([]api.RIns{move(1, reg(1))}, many)...)); len(d.Blocks[0].Ins) != 0 {
		t.Error("of many that are left out")
	}
}

// R1: numbers at all edges, wherever one stands.
func TestMonstrousNumbers(t *testing.T) {
	r := rand.New(rand.NewSource(1))
	turned, out := 0, 0
	for range 30000 {
		var l []api.RIns
		few := []int{sample.Edge(r), sample.Edge(r), -1}
		one := func() api.Opnd {
			return at([]int{api.AtReg, api.AtReg, api.AtReg, sample.Edge(r)}[r.Intn(4)], int64(few[r.Intn(3)]))
		}
		for range r.Intn(8) {
			x := api.RIns{Op: []int{api.RMove, api.RMove, api.RMove, sample.Edge(r)}[r.Intn(4)], Code: sample.Edge(r), Dst: few[r.Intn(3)], Args: opnds(one())}
			x.N, x.PC, x.Need = int64(sample.Edge(r)), sample.Edge(r), sample.Edge(r)
			if r.Intn(6) == 0 {
				x.Args = slices.Repeat(x.Args, r.Intn(3))
			}
			for range r.Intn(3) {
				x.Exit = append(x.Exit, api.Shape{Fn: sample.Edge(r), PC: sample.Edge(r), Slots: opnds(one(), one())})
			}
			l = append(l, x)
		}
		c := block(l...)
		c.Fn, c.Regs, c.Blocks[0].PC, c.Blocks[0].Next = sample.Edge(r), r.Intn(5), sample.Edge(r), []int{sample.Edge(r)}
		n, m := turns(c, obeys(t, c))
		turned, out = turned+n, out+m
	}
	if turned < 3000 || out < 3000 {
		t.Error("little was turned:", turned, out)
	}
	if d := Run(api.Code{}); !sample.Same(d, api.Code{}) {
		t.Error("of no code:", d)
	}
	if d := Run(api.Code{Fn: -1, Regs: -2, Blocks: make([]api.Block, 2)}); !sample.Same(d, api.Code{Fn: -1, Regs: -2, Blocks: make([]api.Block, 2)}) {
		t.Error("of empty blocks:", d)
	}
}
