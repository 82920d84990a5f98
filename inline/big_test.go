package inline

import (
	"math/rand"
	"slices"
	"strconv"
	"testing"

	"portage/api"
	"portage/lift"
	"portage/model"
	"portage/sample"
)

// R7: the greatest frames on both sides: a caller of as many locals and values as there may be, that hands all it can to a function of as many locals and instructions.
func TestGreatest(t *testing.T) {
	text := "func main 0 64\nfunc f\n"
	for k := range 63 {
		text += "int " + strconv.Itoa(k) + "\n"
	}
	text += "call 63\nret\nfunc f 63 64\n"
	for range 11 {
		text += "load 62\n"
	}
	for range 10 {
		text += "add\n"
	}
	text += "store 63\nload 63\nret"
	p := parsed(t, text)
	f, c := factsOf(t, p), lifted(t, p, 0)
	if len(p.Funcs[1].Code) != api.MaxInline {
		t.Fatal(len(p.Funcs[1].Code))
	}
	prof := toward(p, 0, 64, 2)
	d := Run(p, f, c, prof)
	if d.Regs != (64+64+1)+(64+11+1) || lift.Check(p, f, d) != api.OK || !sample.Same(d, meant(p, f, c, prof)) {
		t.Fatal(d.Regs)
	}
	left := trial{p, api.Limits{Fuel: 1000}, api.State{}, d, api.Frame{Slots: make([]api.Value, 64)}, 99, -1}.meets(t)
	want := append(make([]api.Value, 64), whole(62*11))
	if left.Why != api.LeftCode || !model.SameFrames(left.Frames, []api.Frame{{PC: 65, Slots: want}}) {
		t.Error(left)
	}
}

// P20.2: as many calls as a function can have.
func TestManyCalls(t *testing.T) {
	var l []api.Instr
	for len(l) < api.MaxCode-2 {
		l = append(l, ins(api.OpFunc, 1), ins(api.OpCall), ins(api.OpPop))
	}
	l = append(l[:1998], ins(api.OpNil), ins(api.OpRet))
	p := api.Program{Funcs: []api.Function{{Name: "main", Code: l}, {Name: "f", Code: append(slices.Repeat([]api.Instr{ins(api.OpRead), ins(api.OpPrint)}, 11), ins(api.OpNil), ins(api.OpRet))}}}
	f, c := factsOf(t, p), lifted(t, p, 0)
	prof := api.Profile{Funcs: [][]api.Spot{slices.Repeat([]api.Spot{{Callee: 2}}, len(l))}}
	d := Run(p, f, c, prof)
	if len(replaced(c, d)) != 666 || lift.Check(p, f, d) != api.OK || !sample.Same(d, meant(p, f, c, prof)) {
		t.Error(len(replaced(c, d)))
	}
}

// P20.1, P20.2: as many functions as there can be, the last one being the one that is called; the other way round, main itself.
func TestManyFunctions(t *testing.T) {
	p := api.Program{}
	for k := range api.MaxFuncs {
		p.Funcs = append(p.Funcs, api.Function{Name: "f" + strconv.Itoa(k), Code: []api.Instr{ins(api.OpInt, int64(k)), ins(api.OpRet)}})
	}
	p.Funcs[5].Code = []api.Instr{ins(api.OpFunc, 127), ins(api.OpCall), ins(api.OpRet)}
	f, c := factsOf(t, p), lifted(t, p, 5)
	for _, k := range []int{127, 0, 5, 128} {
		prof := toward(p, 5, 1, k+1)
		d := Run(p, f, c, prof)
		if (len(replaced(c, d)) == 1) != (k == 127 || k == 0) || !sample.Same(d, meant(p, f, c, prof)) {
			t.Error(k, d)
		}
	}
}

// someProgram is a program that need not be one: of any operations, operands and sizes.
func someProgram(r *rand.Rand) api.Program {
	p := sample.Caller(r, 10)
	for range r.Intn(4) {
		f := &p.Funcs[r.Intn(len(p.Funcs))]
		switch r.Intn(8) {
		case 0:
			f.Locals = sample.Edge(r)
		case 1:
			f.Code = nil
		case 2:
			f.Handlers = append(f.Handlers, api.Handler{From: sample.Edge(r), To: sample.Edge(r), Target: r.Intn(4)})
		case 3:
			p.Consts = nil
		case 4:
			f.Code = f.Code[:r.Intn(len(f.Code)+1)]
		case 5:
			f.Params = sample.Edge(r)
		default:
			if len(f.Code) > 0 {
				f.Code[r.Intn(len(f.Code))] = ins(r.Intn(api.Ops+2)-1, int64(sample.Edge(r)))
			}
		}
	}
	return p
}

// someFacts are facts that need not be those of the program.
func someFacts(r *rand.Rand, p api.Program) api.Facts {
	var f api.Facts
	for _, fn := range p.Funcs {
		l := make([]int, len(fn.Code))
		if r.Intn(8) == 0 {
			l = make([]int, max(0, len(fn.Code)+r.Intn(3)-1))
		}
		for i := range l {
			l[i] = 6 + r.Intn(3)
			if r.Intn(40) == 0 {
				l[i] = sample.Edge(r)
			}
		}
		f.Heights = append(f.Heights, l)
		most := 6 + r.Intn(20)
		if r.Intn(4) == 0 {
			most = sample.Edge(r)
		}
		f.Most = append(f.Most, most)
	}
	if r.Intn(4) == 0 {
		f.Heights = f.Heights[:r.Intn(len(f.Heights)+1)]
		f.Most = f.Most[:r.Intn(len(f.Most)+1)]
	}
	return f
}

// R1: with programs, facts and code that don't fit one another Run ends, and Fits too.
func TestAnyProgram(t *testing.T) {
	r := rand.New(rand.NewSource(1))
	made := 0
	for range 20000 {
		good := sample.Caller(r, 10)
		p, f := good, factsOf(t, good)
		c := lifted(t, good, r.Intn(3))
		if r.Intn(2) == 0 {
			c = sample.Code(r, p, f, c)
		}
		if r.Intn(2) == 0 {
			p = someProgram(r)
		}
		if r.Intn(2) == 0 {
			f = someFacts(r, p)
		}
		for range r.Intn(4) {
			sample.Spoil(r, &c)
		}
		prof := sample.Profile(r, good)
		d := Run(p, f, c, prof)
		if len(d.Blocks) != len(c.Blocks) {
			t.Fatal("blocks:", len(d.Blocks), len(c.Blocks))
		}
		made += len(replaced(c, d))
		Fits(p, sample.Edge(r))
		Fits(p, r.Intn(12))
	}
	if made < 100 {
		t.Error("few were replaced:", made)
	}
}

// R1: numbers at all edges in the facts, the function and the code.
func TestMonstrousNumbers(t *testing.T) {
	for _, n := range sample.Edges() {
		for _, turn := range []func(g *given){
			func(g *given) { g.F.Most[0] = n },
			func(g *given) { g.F.Most[1] = n },
			func(g *given) { g.F.Heights[1][0] = n },
			func(g *given) { g.F.Heights[1][3] = n },
			func(g *given) { g.F.Heights[0][2] = n },
			func(g *given) { g.P.Funcs[0].Locals = n },
			func(g *given) { g.P.Funcs[1].Locals = n },
			func(g *given) { g.P.Funcs[1].Params = n },
			func(g *given) { g.P.Funcs[0].Code[2].A = int64(n) },
			func(g *given) { g.P.Funcs[1].Code[1].A = int64(n) },
			func(g *given) { g.C.Fn = n },
			func(g *given) { g.C.Regs = n },
			func(g *given) { g.C.Blocks[1].PC = n },
			func(g *given) { leave(&g.C.Blocks[0]).Exit[0].PC = n },
			func(g *given) { leave(&g.C.Blocks[0]).Exit[0].Fn = n },
			func(g *given) { leave(&g.C.Blocks[0]).Exit[0].Slots[0].N = int64(n) },
			func(g *given) { leave(&g.C.Blocks[0]).Exit[0].Slots = make([]api.Opnd, n&0xfff) },
			func(g *given) { leave(&g.C.Blocks[0]).Exit = make([]api.Shape, n&3) },
			func(g *given) { g.C.Blocks[0].Ins = g.C.Blocks[0].Ins[:n&1] },
			func(g *given) { g.Prof.Funcs[0][2].Callee = n },
		} {
			p := example(t)
			g := given{p, factsOf(t, p), lifted(t, p, 0), toward(p, 0, 2, 2)}
			turn(&g)
			if d := g.run(); len(d.Blocks) != 2 {
				t.Error(d)
			}
		}
	}
	// A register of any number in the frame that waits, and in what is handed over.
	for _, n := range sample.Edges() {
		for slot := range 7 {
			p := wide(t)
			g := given{p, factsOf(t, p), lifted(t, p, 0), all(p)}
			leave(&g.C.Blocks[0]).Exit[0].Slots[slot].N = int64(n)
			g.run()
		}
	}
	p := example(t)
	Run(p, api.Facts{}, lifted(t, p, 0), toward(p, 0, 2, 2))
	Run(api.Program{}, api.Facts{}, lifted(t, p, 0), toward(p, 0, 2, 2))
	if d := Run(p, factsOf(t, p), api.Code{}, toward(p, 0, 2, 2)); !sample.Same(d, api.Code{}) {
		t.Error(d)
	}
}

// R1: code of more blocks than there can be, each of which leaves at a call, does not grow without an end.
func TestManyBlocks(t *testing.T) {
	p := example(t)
	f, c := factsOf(t, p), lifted(t, p, 0)
	c.Blocks = slices.Repeat(c.Blocks, 1<<17)
	if d := Run(p, f, c, toward(p, 0, 2, 2)); len(d.Blocks) != 1<<18 {
		t.Error(len(d.Blocks))
	}
}
