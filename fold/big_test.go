package fold

import (
	"math/rand"
	"slices"
	"strings"
	"testing"

	"portage/api"
	"portage/copies"
	"portage/lift"
	"portage/sample"
)

// R7: a function of as many instructions as there may be, of which the values are all known, or none is.
func TestGreatest(t *testing.T) {
	known := "int 1\n" + strings.Repeat("int 1\nadd\n", (api.MaxCode-2)/2) + "ret"
	unknown := "load 63\n" + strings.Repeat("load 0\nadd\n", (api.MaxCode-2)/2) + "ret"
	for k, text := range []string{known, unknown} {
		p := parsed(t, "func main 0 64\n"+text)
		c := lifted(t, p, 0)
		for range 3 {
			c = obeys(t, p, copies.Run(c))
		}
		if len(p.Funcs[0].Code) != api.MaxCode || lift.Steps(c.Blocks[0]) != api.MaxCode-1 || lift.Check(p, factsOf(t, p), c) != api.OK {
			t.Fatal(k, len(p.Funcs[0].Code), lift.Steps(c.Blocks[0]))
		}
		f := api.Frame{Slots: slices.Repeat([]api.Value{{Kind: api.Int, N: 1}}, 64)}
		left := trial{p, api.Limits{Fuel: api.MaxCode}, api.State{}, c, f, 99, -1}.meets(t)
		if slots := left.Frames[0].Slots; left.Why != api.LeftCode || slots[len(slots)-1].N != api.MaxCode/2 {
			t.Error(k, left)
		}
	}
}

// P23.2: Needs that are together at their limit, and beyond it; those beyond are no longer right, but as great as is promised.
func TestGreatNeeds(t *testing.T) {
	p := given(t)
	for _, x := range []struct {
		first, second int
		right         api.Errno
	}{{api.MaxCode, api.MaxCode, api.OK}, {2 * api.MaxCode, 0, api.OK}, {0, 2 * api.MaxCode, api.OK}, {2*api.MaxCode - 1, 2, api.ErrForm}, {2 * api.MaxCode, 2 * api.MaxCode, api.ErrForm}} {
		c := written(plain(ins(api.OpAdd), 1, x.second, whole(1), whole(1)), jump())
		c.Blocks[0].Ins[0].Need = x.first
		d := obeys(t, p, c)
		if got := lift.Check(p, factsOf(t, p), d); got != x.right || d.Blocks[0].Ins[0].Need != x.first+x.second {
			t.Errorf("%+v: %v, %+v", x, got, d.Blocks[0])
		}
	}
}

// R1: register code of any numbers of blocks, instructions and operands: the answer takes about as long as what is asked is great.
func TestMany(t *testing.T) {
	const many = 1 << 17
	p := given(t)
	l := slices.Repeat([]api.RIns{plain(ins(api.OpAdd), 1, 1, whole(1), whole(2)), guard(api.Int, 1, reg(1)), move(2, reg(1))}, many)
	d := Run(p, written(append(l, jump())...))
	if b := d.Blocks[0]; len(b.Ins) != 2*many+2 || b.Ins[0].Need != 2*many+1 {
		t.Error("of many that are known:", len(b.Ins), b.Ins[0])
	}
	l = slices.Repeat([]api.RIns{move(1, reg(0)), guard(api.Int, 1, reg(1))}, many)
	d = Run(p, written(append(l, jump())...))
	if b := d.Blocks[0]; len(b.Ins) != 2*many+2 || b.Ins[2*many].Need != 1 {
		t.Error("of many that are not known:", len(b.Ins))
	}
	c := written(jump())
	c.Blocks = slices.Repeat([]api.Block{{Ins: []api.RIns{point(1), guard(api.Int, 2, whole(1)), branch(api.OpJz, null())}, Next: []int{1, 2}}}, many)
	d = Run(p, c)
	if b := d.Blocks[many-1]; len(d.Blocks) != many || len(b.Ins) != 2 || b.Ins[0].Need != 3 || !slices.Equal(b.Next, []int{1}) {
		t.Error("of many blocks:", b)
	}
	x := plain(ins(api.OpArray, 9), 1, 1, slices.Repeat(regs(1), many)...)
	y := plain(ins(api.OpArray, 9), 1, 1, slices.Repeat(opnds(null()), many)...)
	x.Exit[0].Slots = x.Args
	d = Run(p, written(x, y, jump()))
	if b := d.Blocks[0]; len(b.Ins[1].Args) != many || len(b.Ins[1].Exit[0].Slots) != many || len(b.Ins[2].Args) != many {
		t.Error("of many operands")
	}
}

// monstrous is an instruction in which any number may stand anywhere.
func monstrous(r *rand.Rand) api.RIns {
	one := func() api.Opnd {
		return at([]int{r.Intn(7), r.Intn(7), sample.Edge(r)}[r.Intn(3)], int64([]int{r.Intn(3), sample.Edge(r)}[r.Intn(2)]))
	}
	x := api.RIns{Op: []int{r.Intn(10), r.Intn(10), r.Intn(10), sample.Edge(r)}[r.Intn(4)], Code: []int{r.Intn(api.Ops), sample.Edge(r)}[r.Intn(2)], Dst: []int{r.Intn(3), sample.Edge(r)}[r.Intn(2)]}
	x.N, x.PC, x.Need = int64([]int{r.Intn(4), sample.Edge(r)}[r.Intn(2)]), sample.Edge(r), sample.Edge(r)
	for range r.Intn(4) {
		x.Args = append(x.Args, one())
	}
	for range r.Intn(3) {
		x.Exit = append(x.Exit, api.Shape{Fn: sample.Edge(r), PC: sample.Edge(r), Slots: opnds(one(), one())})
	}
	return x
}

// R1: any register code of any program, right or not, comes to an end, and the answer is new memory and not longer.
func TestMonstrous(t *testing.T) {
	r := rand.New(rand.NewSource(1))
	p := given(t)
	odd := api.Program{Consts: []api.Const{{Kind: -1}, {Kind: sample.Edge(r)}, {Kind: api.Text}}, Funcs: []api.Function{{}, {Params: -3}}}
	for range 60000 {
		c := api.Code{Fn: sample.Edge(r), Regs: sample.Edge(r)}
		for range r.Intn(3) {
			b := api.Block{PC: sample.Edge(r)}
			for range r.Intn(8) {
				b.Ins = append(b.Ins, monstrous(r))
			}
			for range r.Intn(4) {
				b.Next = append(b.Next, sample.Edge(r))
			}
			c.Blocks = append(c.Blocks, b)
		}
		q := []api.Program{p, odd, {}}[r.Intn(3)]
		d := Run(q, c)
		if d.Fn != c.Fn || d.Regs != c.Regs || len(d.Blocks) != len(c.Blocks) {
			t.Fatalf("%+v became %+v", c, d)
		}
		for k, b := range d.Blocks {
			if b.PC != c.Blocks[k].PC || len(b.Ins) > len(c.Blocks[k].Ins) {
				t.Fatalf("%+v became %+v", c.Blocks[k], b)
			}
		}
	}
	for _, c := range []api.Code{{}, {Fn: -1, Regs: -2, Blocks: make([]api.Block, 2)}, {Blocks: []api.Block{{Ins: make([]api.RIns, 3), Next: []int{-1}}}}} {
		if d := Run(api.Program{}, c); !sample.Same(d, c) {
			t.Errorf("%+v became %+v", c, d)
		}
	}
}

// What is no right code, each in one thing: nothing is promised of it but that it ends.
func TestWrong(t *testing.T) {
	p := given(t)
	bare := func(op int, l ...api.Opnd) api.RIns { return api.RIns{Op: op, Dst: 1, Args: l, Need: 1} }
	for op := -1; op < 12; op++ {
		for _, l := range [][]api.Opnd{nil, opnds(null()), opnds(whole(1), reg(1)), regs(-1), regs(api.MaxRegs), regs(1 << 40), opnds(at(api.AtConst, 2)), opnds(at(api.AtConst, -1)), opnds(at(9, 9))} {
			for _, next := range [][]int{nil, {1}, {1, 2}, {1, 2, 3}} {
				c := api.Code{Blocks: []api.Block{{Ins: []api.RIns{bare(op, l...), bare(op, l...), bare(api.RMove, l...), bare(op, reg(1))}, Next: next}}}
				for _, q := range []api.Program{p, {}} {
					if d := Run(q, c); len(d.Blocks) != 1 || len(d.Blocks[0].Ins) > 4 {
						t.Errorf("%+v became %+v", c, d)
					}
				}
			}
		}
	}
}
