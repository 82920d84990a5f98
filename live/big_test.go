package live

import (
	"math/rand"
	"slices"
	"strconv"
	"strings"
	"testing"

	"portage/api"
	"portage/copies"
	"portage/lift"
	"portage/sample"
)

// R7: functions of as many instructions as there may be: one that makes what nobody asks for, one that carries values from local to local, one of as many blocks as there may be.
func TestGreatest(t *testing.T) {
	var moves, blocks strings.Builder
	for k := range (api.MaxCode - 2) / 2 {
		moves.WriteString("load " + strconv.Itoa(k%64) + "\nstore " + strconv.Itoa(k*7%64) + "\n")
	}
	for k := range (api.MaxCode - 2) / 3 {
		n := strconv.Itoa(k)
		blocks.WriteString("load " + strconv.Itoa(k%64) + "\njz l" + n + "\nnop\nl" + n + ":\n")
	}
	idle := strings.Repeat("load 1\nload 2\neq\npop\n", (api.MaxCode-4)/4) + "nop\nnop\n"
	for k, text := range []string{moves.String(), blocks.String(), idle} {
		p := parsed(t, "func main 0 64\n"+text+"load 9\nret")
		f, c := factsOf(t, p), copies.Run(lifted(t, p, 0))
		d := obeys(t, c)
		if len(p.Funcs[0].Code) != api.MaxCode || lift.Check(p, f, d) != api.OK || size(d) >= size(c) {
			t.Fatal(k, len(p.Funcs[0].Code), size(c), size(d))
		}
		frame := api.Frame{Slots: make([]api.Value, 64)}
		for i := range frame.Slots {
			frame.Slots[i] = api.Value{Kind: api.Int, N: int64(i)}
		}
		x := trial{p, api.Limits{Fuel: api.MaxCode}, api.State{}, d, frame, 99, -1}
		x.same(t, c)
		if left := x.meets(t); left.Why != api.LeftCode {
			t.Error(k, left)
		}
	}
}

// R1: register code of any numbers of blocks, instructions, operands and shapes: the answer takes about as long as what is asked is great.
func TestMany(t *testing.T) {
	const many = 1 << 17
	l := slices.Repeat([]api.RIns{pure(1, regs(1, 2)...), move(3, reg(1)), move(2, reg(4))}, many)
	c := code(leads(list(append(l, point(1))...), 0))
	if d := Run(c); size(d) != 2*many+1 || !slices.Equal(After(c, 0, 3*many), []int{1, 2, 4}) {
		t.Error("of many instructions:", size(d))
	}
	x := point(slices.Repeat([]int{1, 5, -9, api.MaxRegs}, 8*many)...)
	x.Args, x.Exit = x.Exit[0].Slots, append(make([]api.Shape, many), x.Exit...)
	c = code(list(jump(), x, move(1, reg(6))))
	if d := Run(c); size(d) != 2 || len(d.Blocks[0].Ins[1].Args) != 32*many || len(d.Blocks[0].Ins[1].Exit) != many+1 || !slices.Equal(After(c, 0, 0), []int{1, 5}) {
		t.Error("of many operands")
	}
	c = code(leads(list(jump()), slices.Repeat([]int{0, 1, 2, -1, 1 << 40}, many)...), list(point(1)))
	if d := Run(c); len(d.Blocks[0].Next) != 5*many || !slices.Equal(After(c, 0, 0), []int{1}) {
		t.Error("of many ways")
	}
}

// shapesOfWays are ways from each of n blocks on: rows from the first to the last and back, rings and others.
func shapesOfWays(n int) []func(k int) []int {
	return []func(k int) []int{
		func(k int) []int { return []int{k + 1} },
		func(k int) []int { return []int{k - 1} },
		func(k int) []int { return []int{(k + 1) % n} },
		func(k int) []int { return []int{(k - 1 + n) % n} },
		func(k int) []int { return []int{k ^ 1, k + 2} },
		func(k int) []int { return []int{k * 7919 % n, (k + 31) % n} },
	}
}

// wired is register code of n blocks that move one of few registers each; one asks for one of these.
func wired(n, few int, next func(k int) []int) api.Code {
	c := code(make([]api.Block, n)...)
	for k := range c.Blocks {
		c.Blocks[k] = leads(list(move(k%few, reg(k%(few-1)+1)), jump()), next(k)...)
	}
	c.Blocks[n/2].Ins[1] = point(1)
	return c
}

// P24.1 to P24.4 and R1: many blocks, and a great many: in a row each moves the register that the one behind it asks for, or none does.
func TestManyBlocks(t *testing.T) {
	for _, next := range shapesOfWays(70) {
		obeys(t, wired(70, 8, next))
	}
	const many = 1 << 17
	for k, next := range shapesOfWays(many) {
		c := wired(many, api.MaxRegs+50, next)
		if d := Run(c); !sample.Same(Run(d), d) || size(d) == size(c) || !slices.Contains(After(c, many/2, 0), 1) {
			t.Error(k, "became", size(d))
		}
	}
}

// R1: one register behind the other becomes wanted, round by round: each is asked for where the one below it is written.
func TestOneByOne(t *testing.T) {
	var l []api.RIns
	for k := range api.MaxRegs - 1 {
		l = append(l, pure(k, reg(k+1)))
	}
	c := code(leads(list(jump()), 1), leads(list(l...), 2), leads(list(), 1, 3), list(point(0)))
	if d := Run(c); size(d) != size(c) || len(After(c, 0, 0)) != api.MaxRegs-1 {
		t.Error("round by round:", size(d), After(c, 0, 0))
	}
	slices.Reverse(c.Blocks[1].Ins)
	if d := Run(c); size(d) != size(c) || !slices.Equal(After(c, 0, 0), []int{api.MaxRegs - 1}) {
		t.Error("in one round:", size(d), After(c, 0, 0))
	}
}

// R1: numbers at all edges, wherever one stands.
func TestMonstrousNumbers(t *testing.T) {
	r := rand.New(rand.NewSource(1))
	out := 0
	for range 20000 {
		few := []int{sample.Edge(r), r.Intn(api.MaxRegs), api.MaxRegs - 1 + r.Intn(3), -1}
		one := func() api.Opnd {
			return at([]int{api.AtReg, api.AtReg, api.AtReg, sample.Edge(r)}[r.Intn(4)], int64(few[r.Intn(4)]))
		}
		c := api.Code{Fn: sample.Edge(r), Regs: sample.Edge(r)}
		for range r.Intn(4) {
			b := api.Block{PC: sample.Edge(r), Next: []int{r.Intn(3), sample.Edge(r)}}
			for range r.Intn(6) {
				x := api.RIns{Op: []int{api.RMove, api.RPure, 1 + r.Intn(9), sample.Edge(r)}[r.Intn(4)], Code: sample.Edge(r), Dst: few[r.Intn(4)], Args: opnds(one())}
				x.N, x.PC, x.Need = int64(sample.Edge(r)), sample.Edge(r), sample.Edge(r)
				for range r.Intn(3) {
					x.Exit = append(x.Exit, api.Shape{Fn: sample.Edge(r), PC: sample.Edge(r), Slots: opnds(one(), one())})
				}
				b.Ins = append(b.Ins, x)
			}
			c.Blocks = append(c.Blocks, b)
		}
		d := obeys(t, c)
		out += size(c) - size(d)
		if After(c, sample.Edge(r), 1<<20) != nil || After(c, 1<<20, sample.Edge(r)) != nil {
			t.Fatal("something is behind nothing")
		}
	}
	if out < 3000 {
		t.Error("little was taken out:", out)
	}
}
