package inline

import (
	"math"
	"math/rand"
	"slices"
	"testing"

	"portage/api"
	"portage/lift"
	"portage/sample"
)

// The chapter's example, instruction by instruction.
func TestExample(t *testing.T) {
	p := example(t)
	f, c := factsOf(t, p), lifted(t, p, 0)
	d := Run(p, f, c, toward(p, 0, 2, 2))
	want := sample.Copied(c)
	want.Regs = 7
	want.Blocks[0].Next = []int{1}
	want.Blocks[0].Ins = []api.RIns{
		{Op: api.RPoint, Dst: -1, Need: 2, Exit: []api.Shape{{}}},
		{Op: api.RMove, Dst: 0, Args: opnds(at(api.AtFunc, 1))},
		{Op: api.RMove, Dst: 1, Args: opnds(at(api.AtInt, 5)), PC: 1},
		{Op: api.RCallee, Dst: -1, N: 1, Args: opnds(reg(0)), PC: 2, Need: 3, Exit: []api.Shape{{PC: 2, Slots: upTo(0, 2)}}},
		{Op: api.RMove, Dst: 3, Args: opnds(reg(1)), PC: 2},
		{Op: api.RMove, Dst: 4, Args: opnds(reg(3))},
		{Op: api.RMove, Dst: 5, Args: opnds(reg(3)), PC: 1},
		{Op: api.RPlain, Code: api.OpMul, Dst: 4, Args: upTo(4, 2), PC: 2, Need: 2, Exit: []api.Shape{{PC: 2}, {Fn: 1, PC: 2, Slots: upTo(3, 3)}}},
		{Op: api.RMove, Dst: 0, Args: opnds(reg(4)), PC: 3},
		{Op: api.RJump, Dst: -1, N: 1, PC: 3},
	}
	if !sample.Same(d, want) {
		t.Errorf("%+v", d)
	}
	if d := Run(p, f, c, api.Profile{}); !sample.Same(d, c) {
		t.Errorf("without a profile: %+v", d)
	}
	if Fits(p, 0) || !Fits(p, 1) || Fits(p, 2) {
		t.Error("Fits")
	}
}

// wide is a program whose main, of 2 locals, calls with 2 values over 2 others at 6, with none at 8, with 1 at 11; behind main stand functions of none, 1 and 2 parameters that are small, and others that are not.
func wide(t testing.TB) api.Program {
	return parsed(t, "const text \"k\"\nfunc main 0 2\nread\nread\nfunc two\nint 1\nint 2\nnop\ncall 2\nfunc none\ncall 0\nfunc one\nint 3\ncall 1\npop\npop\npop\npop\nret\n"+
		"func none 0 1\nnil\nret\nfunc one 1 3\nload 0\nload 0\nswap\nadd\nprint\nint 5\nstore 2\nload 2\nret\nfunc two 2 2\nload 0\nload 1\neq\nret\n"+
		"func waits 2 2\nyield\nnil\nret\nfunc guarded 2 2\nfrom:\nnil\nto:\nret\nhandler from to to 0\n")
}

// P20.2: which numbers of Callee replace a call.
func TestCallees(t *testing.T) {
	p := wide(t)
	f, c := factsOf(t, p), lifted(t, p, 0)
	for _, x := range []struct{ pc, callee, block int }{{6, 4, 0}, {8, 2, 1}, {11, 3, 2}} {
		for _, callee := range append(sample.Edges(), 4, 5, 6, 7, x.callee) {
			prof := toward(p, 0, x.pc, callee)
			d := Run(p, f, c, prof)
			want := []int{x.block}
			if callee != x.callee {
				want = nil
			}
			if !slices.Equal(replaced(c, d), want) || !sample.Same(d, meant(p, f, c, prof)) {
				t.Error("the call at", x.pc, "toward", callee, d)
			}
		}
	}
	// Nothing else of a spot matters, nor what was seen elsewhere.
	prof := toward(p, 0, 6, 4)
	prof.Funcs[0][6].Count, prof.Funcs[0][6].A = math.MinInt64, 1023
	if !slices.Equal(replaced(c, Run(p, f, c, prof)), []int{0}) {
		t.Error("Count and A")
	}
	for pc := range p.Funcs[0].Code {
		if pc != 6 && !sample.Same(Run(p, f, c, toward(p, 0, pc, 4)), c) {
			t.Error("seen at", pc)
		}
	}
	if !sample.Same(Run(p, f, c, toward(p, 3, 2, 4)), c) {
		t.Error("seen in another function")
	}
	short := api.Profile{Funcs: [][]api.Spot{prof.Funcs[0][:6]}}
	if !sample.Same(Run(p, f, c, short), c) {
		t.Error("a profile that ends ahead of the call")
	}
	short.Funcs[0] = prof.Funcs[0][:7]
	if !slices.Equal(replaced(c, Run(p, f, c, short)), []int{0}) {
		t.Error("a profile that ends behind the call")
	}
}

// all is a profile in which every instruction of main was seen to call the function of the fitting number of parameters.
func all(p api.Program) api.Profile {
	f := toward(p, 0, 0, 0)
	for pc, i := range p.Funcs[0].Code {
		f.Funcs[0][pc].Callee = 4
		if i.Op == api.OpCall {
			f.Funcs[0][pc].Callee = int(i.A) + 2
		}
	}
	return f
}

// P20.2: all calls of a function at once, each with its own block behind it; at other leaves nothing is replaced.
func TestAllCalls(t *testing.T) {
	p := wide(t)
	f, c := factsOf(t, p), lifted(t, p, 0)
	d := Run(p, f, c, all(p))
	if !slices.Equal(replaced(c, d), []int{0, 1, 2}) || !sample.Same(d, meant(p, f, c, all(p))) || lift.Check(p, f, d) != api.OK {
		t.Fatalf("%+v", d)
	}
	// main has 2 locals and at most 6 values: 9 registers; one has 3 locals and at most 2 values.
	if d.Regs != 9+3+2+1 {
		t.Error("Regs", d.Regs)
	}
	for k := range 3 {
		if !slices.Equal(d.Blocks[k].Next, []int{k + 1}) {
			t.Error("behind block", k, d.Blocks[k].Next)
		}
	}
	q := parsed(t, "func main 0 0\nfunc none\nspawn 0\nyield\nchan 1\nint 5\nsend\nchan 1\nrecv\nthrow\nfunc none 0 0\nnil\nret")
	x := lifted(t, q, 0)
	prof := toward(q, 0, 0, 0)
	for pc := range prof.Funcs[0] {
		prof.Funcs[0][pc].Callee = 2
	}
	if !sample.Same(Run(q, factsOf(t, q), x, prof), x) {
		t.Error("leaves that are no calls")
	}
}

// leave is the last instruction of a block.
func leave(b *api.Block) *api.RIns { return &b.Ins[len(b.Ins)-1] }

// P20.2: leaves as no lifted code has them.
func TestLeaves(t *testing.T) {
	p := wide(t)
	f := factsOf(t, p)
	for _, x := range []struct {
		name string
		turn func(c *api.Code)
		want []int
	}{
		{"two shapes", func(c *api.Code) {
			i := leave(&c.Blocks[0])
			i.Exit[0].Slots = i.Exit[0].Slots[:4]
			i.Exit = append(i.Exit, api.Shape{Fn: 3, Slots: upTo(0, 2)})
		}, []int{1, 2}},
		{"another PC", func(c *api.Code) { leave(&c.Blocks[0]).PC = 77 }, []int{0, 1, 2}},
		{"the call of another block", func(c *api.Code) {
			leave(&c.Blocks[2]).Exit = sample.Copied(*c).Blocks[0].Ins[len(c.Blocks[0].Ins)-1].Exit
		}, []int{0, 1, 2}},
		{"a call of the block itself, behind no step", func(c *api.Code) {
			b := &c.Blocks[3]
			b.Ins = []api.RIns{b.Ins[0], *leave(b)}
			b.Ins[0].Need = 0
			leave(b).Exit = sample.Copied(*c).Blocks[1].Ins[len(c.Blocks[1].Ins)-1].Exit
		}, []int{0, 1, 2, 3}},
		{"a place that is no call", func(c *api.Code) {
			leave(&c.Blocks[0]).Exit[0].PC = 5
		}, []int{1, 2}},
		{"a jump", func(c *api.Code) {
			*leave(&c.Blocks[1]), c.Blocks[1].Next = api.RIns{Op: api.RJump, Dst: -1}, []int{2}
		}, []int{0, 2}},
		{"a guard that was lost", func(c *api.Code) { leave(&c.Blocks[0]).Exit[0].Slots[4] = at(api.AtFunc, 1) }, []int{0, 1, 2}},
	} {
		c := lifted(t, p, 0)
		x.turn(&c)
		if err := lift.Check(p, f, c); err != api.OK {
			t.Fatal(x.name, err)
		}
		d := Run(p, f, c, all(p))
		if !slices.Equal(replaced(c, d), x.want) || !sample.Same(d, meant(p, f, c, all(p))) || lift.Check(p, f, d) != api.OK {
			t.Errorf("%s: %v %+v", x.name, replaced(c, d), d)
		}
	}
}

// P20.2: which frames can be laid home. The frame that waits at main's first call has 4 slots; there are 9 registers.
func TestHomes(t *testing.T) {
	p := wide(t)
	f := factsOf(t, p)
	r := func(l ...int) []api.Opnd {
		var out []api.Opnd
		for _, n := range l {
			out = append(out, reg(n))
		}
		return out
	}
	for _, x := range []struct {
		slots []api.Opnd
		home  bool
		moves int
	}{
		{r(0, 1, 2, 3), true, 0},
		{r(1, 0, 2, 3), false, 0},
		{r(0, 0, 0, 0), true, 3},
		{r(3, 3, 3, 3), true, 3},
		{r(1, 2, 2, 3), false, 0},
		{r(1, 1, 3, 3), true, 2},
		{r(4, 5, 6, 7), true, 4},
		{r(7, 7, 7, 7), true, 4},
		{r(4, 0, 2, 3), false, 0},
		{r(0, 1, 2, 0), true, 1},
		{r(3, 1, 2, 4), false, 0},
		{opnds(at(api.AtNil, 0), reg(0), reg(2), reg(3)), false, 0},
		{opnds(at(api.AtNil, 0), at(api.AtInt, 1), at(api.AtFunc, 2), at(api.AtConst, 0)), true, 4},
		{opnds(at(api.AtInt, 3), at(api.AtInt, 0), reg(2), reg(3)), true, 2},
		{opnds(reg(3), at(api.AtBool, 1), at(api.AtReal, 2), reg(3)), true, 3},
	} {
		c := lifted(t, p, 0)
		s := &leave(&c.Blocks[0]).Exit[0]
		copy(s.Slots, x.slots)
		d := Run(p, f, c, all(p))
		if slices.Contains(replaced(c, d), 0) != x.home || !sample.Same(d, meant(p, f, c, all(p))) || lift.Check(p, f, d) != api.OK {
			t.Errorf("%v: %+v", x.slots, d.Blocks[0])
			continue
		}
		moves := 0
		from := slices.IndexFunc(d.Blocks[0].Ins, func(i api.RIns) bool { return i.Op == api.RCallee })
		for _, i := range d.Blocks[0].Ins[max(from, 0):] {
			if i.Op == api.RMove && i.PC == 3 { // the place of the ret
				moves++
			}
		}
		if x.home && moves != x.moves+1 {
			t.Error(x.slots, "has", moves, "moves at the ret")
		}
	}
}

// P20.2: Needs, where the function has no point, one at its beginning, one ahead of its ret, and several.
func TestNeeds(t *testing.T) {
	for _, x := range []struct {
		body  string
		needs []int
	}{
		{"nil\n", []int{3}},
		{"nop\nnop\nnil\n", []int{5}},
		{"read\n", []int{1, 2}},
		{"nil\nprint\nread\n", []int{2, 1, 2}},
		{"read\nread\neq\n", []int{1, 1, 3}},
		{"record\nlen\nnop\ndup\nadd\n", []int{1, 1, 3, 2}},
		{"int 1\nint 2\nadd\nint 3\nadd\nnop\n", []int{3, 2, 3}},
	} {
		p := parsed(t, "func main 0 0\nfunc f\ncall 0\nret\nfunc f 0 0\n"+x.body+"ret")
		f, c := factsOf(t, p), lifted(t, p, 0)
		d := Run(p, f, c, toward(p, 0, 1, 2))
		var needs []int
		for _, i := range d.Blocks[0].Ins[1:] {
			if lift.Point(i.Op) {
				needs = append(needs, i.Need)
			}
		}
		if !slices.Equal(needs, x.needs) || !sample.Same(d, meant(p, f, c, toward(p, 0, 1, 2))) {
			t.Error(x.body, needs)
		}
	}
}

// P20.2: Regs is the greatest of all, that of the code too.
func TestRegs(t *testing.T) {
	p := wide(t)
	f, c := factsOf(t, p), lifted(t, p, 0)
	for _, x := range []struct{ regs, want int }{{9, 15}, {8, 15}, {14, 15}, {15, 15}, {16, 16}, {512, 512}} {
		c.Regs = x.regs
		if d := Run(p, f, c, all(p)); d.Regs != x.want {
			t.Error(x, d.Regs)
		}
		if d := Run(p, f, c, toward(p, 0, 6, 1)); d.Regs != x.regs {
			t.Error("nothing is replaced", x, d.Regs)
		}
	}
}

// P20.2: each operation that a small function may have.
func TestEachOperation(t *testing.T) {
	for _, body := range []string{
		"nop", "nil\npop", "nil\npop\nnil", "true", "false", "int -9", "const 0", "const 1", "func f", "load 1", "load 0\nstore 2", "load 0\ndup\nswap", "load 0\nload 1\nload 2\nswap",
		"load 0\nprint", "read", "load 0\nneg", "load 0\nload 1\nload 2\ncut", "array 0", "load 0\narray 1", "load 0\nload 1\nbind 1", "record", "load 0\nload 1\nget",
		"load 0\nload 1\nload 2\nset", "load 0\nload 1\npush", "load 0\ngetf 0", "load 0\nload 1\nsetf 0", "load 0\nhasf 0", "load 0\ndelf 0", "load 0\nkeys", "chan 4", "load 0\nshut",
		"load 0\next 16", "load 0\nload 0\nbic", "load 0\ntest", "load 0\nflip", "load 0\nload 1\nne", "load 0\nload 1\neq", "load 0\nload 1\nle",
	} {
		text := "const text \"k\"\nconst real 2\nfunc main 0 3\nread\nload 1\nfunc f\nread\nload 0\ncall 2\nstore 2\npop\nret\nfunc f 2 3\nload 0\nload 0\nload 0\n" + body + "\nnil\nret"
		p := parsed(t, text)
		f, c := factsOf(t, p), lifted(t, p, 0)
		d := Run(p, f, c, toward(p, 0, 5, 2))
		if len(replaced(c, d)) != 1 || !sample.Same(d, meant(p, f, c, toward(p, 0, 5, 2))) || lift.Check(p, f, d) != api.OK {
			t.Errorf("%s: %+v", body, d.Blocks)
		}
	}
}

// P20.2: drawn programs, profiles and right register code of all sorts.
func TestDrawn(t *testing.T) {
	r := rand.New(rand.NewSource(202))
	lost, made := 0, 0
	for range 1500 {
		p := sample.Caller(r, 40)
		f, prof := factsOf(t, p), sample.Profile(r, p)
		for fn := range p.Funcs {
			c := lifted(t, p, fn)
			if r.Intn(3) > 0 {
				c = sample.Code(r, p, f, c)
				shuffle(r, &c)
			}
			if err := lift.Check(p, f, c); err != api.OK {
				t.Fatal("what was drawn is", err)
			}
			d := Run(p, f, c, prof)
			if want := meant(p, f, c, prof); !sample.Same(d, want) {
				t.Fatalf("%+v\nbecame\n%+v\nand not\n%+v", c, d, want)
			}
			n := len(replaced(c, d))
			made += n
			for _, b := range c.Blocks {
				if i := leave(&b); i.Op == api.RLeave && p.Funcs[fn].Code[i.Exit[0].PC].Op == api.OpCall {
					lost++
				}
			}
			lost -= n
		}
	}
	if made < 1000 || lost < 1000 {
		t.Error("few of one sort:", made, lost)
	}
}

// shuffle gives some leaves' slots other operands, so that some frames that wait can't be laid home.
func shuffle(r *rand.Rand, c *api.Code) {
	for k := range c.Blocks {
		i := leave(&c.Blocks[k])
		if i.Op != api.RLeave || r.Intn(2) == 0 {
			continue
		}
		for s := range i.Exit[0].Slots {
			switch r.Intn(6) {
			case 0:
				i.Exit[0].Slots[s] = reg(r.Intn(c.Regs))
			case 1:
				i.Exit[0].Slots[s] = at(api.AtInt, int64(r.Intn(4)))
			}
		}
	}
}
