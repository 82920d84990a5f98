package lift

import (
	"math/rand"
	"slices"
	"testing"

	"portage/api"
	"portage/sample"
)

// greatest is a function of as many locals, values on the stack and instructions as there may be.
func greatest() api.Program {
	l := slices.Repeat([]api.Instr{ins(api.OpInt, 1)}, api.MaxHeight-1)
	for len(l) < api.MaxCode-2 {
		l = append(l, ins(api.OpLoad, 63), ins(api.OpSwap), ins(api.OpAdd))
	}
	l = append(l[:api.MaxCode-2], ins(api.OpNop), ins(api.OpRet))
	return alone(api.MaxLocals, l...)
}

// P19.1, P19.4, P19.7 and R7: the greatest function.
func TestGreatest(t *testing.T) {
	p := greatest()
	f := factsOf(t, p)
	c, err := Function(p, f, 0)
	if err != api.OK || c.Regs != 64+64+1 || !sample.Same(c, meant(p, f, 0)) || Check(p, f, c) != api.OK {
		t.Fatal(c.Regs, err)
	}
	n := 1
	for _, b := range c.Blocks {
		n += Steps(b)
	}
	if n != api.MaxCode {
		t.Error("it stands for", n)
	}
}

// P19.1: as many blocks as a function can have.
func TestManyBlocks(t *testing.T) {
	var l []api.Instr
	for range api.MaxCode / 2 {
		l = append(l, ins(api.OpTrue), ins(api.OpJnz, 0))
	}
	l[len(l)-2], l[len(l)-1] = ins(api.OpYield), ins(api.OpJump, 1998)
	p := alone(0, l...)
	f := factsOf(t, p)
	c, err := Function(p, f, 0)
	if err != api.OK || len(c.Blocks) != api.MaxCode/2+1 || !sample.Same(c, meant(p, f, 0)) || Check(p, f, c) != api.OK {
		t.Fatal(len(c.Blocks), err)
	}
}

// R1: Check ends for register code of any size.
func TestLongBlock(t *testing.T) {
	p := example(t)
	f := factsOf(t, p)
	c := lifted(t, p, 1)
	b := &c.Blocks[0]
	more := slices.Repeat([]api.RIns{b.Ins[3]}, 1<<18)
	b.Ins = slices.Insert(b.Ins, 3, more...)
	if err := Check(p, f, c); err != api.OK {
		t.Error(err)
	}
	b.Ins[1<<17].Args = nil
	if err := Check(p, f, c); err != api.ErrForm {
		t.Error(err)
	}
	c = lifted(t, p, 1)
	c.Blocks[0].Next = make([]int, 1<<20)
	if err := Check(p, f, c); err != api.ErrForm {
		t.Error(err)
	}
}

// someProgram is a program that need not be one: of any operations, operands and sizes.
func someProgram(r *rand.Rand) api.Program {
	p := sample.Program(r, 10)
	for range r.Intn(4) {
		f := &p.Funcs[r.Intn(len(p.Funcs))]
		switch r.Intn(7) {
		case 0:
			f.Locals = sample.Edge(r)
		case 1:
			f.Code = nil
		case 2:
			f.Handlers = append(f.Handlers, api.Handler{From: sample.Edge(r), To: sample.Edge(r), Target: r.Intn(4)})
		case 3:
			p.Consts = nil
		case 4:
			f.Code = f.Code[:r.Intn(len(f.Code)+1)]
		default:
			if len(f.Code) > 0 {
				f.Code[r.Intn(len(f.Code))] = ins(r.Intn(api.Ops+2)-1, int64(sample.Edge(r)))
			}
		}
	}
	return p
}

// someFacts are facts that need not be those of the program.
func someFacts(r *rand.Rand, p api.Program) api.Facts {
	var f api.Facts
	for _, fn := range p.Funcs {
		l := make([]int, max(0, len(fn.Code)+r.Intn(3)-1))
		if r.Intn(2) == 0 {
			l = make([]int, len(fn.Code))
		}
		for i := range l {
			l[i] = 6 + r.Intn(3)
			if r.Intn(20) == 0 {
				l[i] = sample.Edge(r)
			}
		}
		f.Heights = append(f.Heights, l)
		f.Most = append(f.Most, sample.Edge(r))
	}
	f.Heights = f.Heights[:r.Intn(len(f.Heights)+1)]
	f.Most = f.Most[:r.Intn(len(f.Most)+1)]
	return f
}

// R1: with programs that are not verified, and facts that are not theirs, both calls end, and Check answers OK or ErrForm.
func TestAnyProgram(t *testing.T) {
	r := rand.New(rand.NewSource(1))
	made, taken := 0, 0
	for range 20000 {
		good := sample.Program(r, 10)
		goodFacts := factsOf(t, good)
		p, f := someProgram(r), goodFacts
		if r.Intn(3) > 0 {
			f = someFacts(r, p)
		}
		c := sample.Code(r, good, goodFacts, lifted(t, good, 0))
		for fn := -1; fn <= len(p.Funcs); fn++ {
			x, err := Function(p, f, fn)
			if err == api.OK {
				made++
				c = x
			} else if !sample.Same(x, api.Code{}) {
				t.Fatal("code beside", err)
			}
			if err := Check(p, f, c); err != api.OK && err != api.ErrForm {
				t.Fatal(err)
			} else if err == api.OK {
				taken++
			}
		}
		sample.Spoil(r, &c)
		Check(p, f, c)
	}
	if made < 100 || taken < 100 {
		t.Error("few were lifted or taken:", made, taken)
	}
}

// R1: heights and locals so great that their frames could not be written are never written.
func TestMonstrousFacts(t *testing.T) {
	p := alone(0, ins(api.OpNil), ins(api.OpRet))
	for _, n := range sample.Edges() {
		f := api.Facts{Heights: [][]int{{n, n}}, Most: []int{n}}
		Function(p, f, 0)
		p.Funcs[0].Locals = n
		Function(p, f, 0)
		Function(p, api.Facts{Heights: [][]int{{0, 1}}, Most: []int{1}}, 0)
		c := api.Code{Regs: 3, Blocks: []api.Block{{Ins: []api.RIns{point(api.RPoint, 0, 0, 0), point(api.RLeave, 1, 0, 1)}}}}
		if err := Check(p, f, c); err != api.OK && err != api.ErrForm {
			t.Error(err)
		}
	}
	// Heights that end ahead of the code.
	p.Funcs[0].Locals = 0
	c := lifted(t, p, 0)
	for _, short := range []api.Facts{{}, {Heights: [][]int{}}, {Heights: [][]int{nil}}, {Heights: [][]int{{0}}}} {
		if err := Check(p, short, c); err != api.ErrForm {
			t.Error(err, short)
		}
		Function(p, short, 0)
	}
	q := alone(0, slices.Repeat([]api.Instr{ins(api.OpRead)}, 1<<20)...)
	q.Funcs[0].Code[1<<20-1] = ins(api.OpRet)
	f := api.Facts{Heights: [][]int{slices.Repeat([]int{64}, 1<<20)}, Most: []int{64}}
	Function(q, f, 0)
}
