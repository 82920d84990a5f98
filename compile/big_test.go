package compile

import (
	"math/rand"
	"slices"
	"strconv"
	"strings"
	"testing"

	"portage/api"
	"portage/lift"
	"portage/sample"
)

// R7: functions of as many instructions as there may be: one that knows all it reckons with, one of as many blocks as there may be, one that calls as often as it can.
func TestGreatest(t *testing.T) {
	known := "int 1\n" + strings.Repeat("int 1\nadd\n", (api.MaxCode-4)/2) + "nop\nnop\n"
	var blocks strings.Builder
	for k := range (api.MaxCode - 2) / 3 {
		n := strconv.Itoa(k)
		blocks.WriteString("load " + strconv.Itoa(k%64) + "\njz l" + n + "\nnop\nl" + n + ":\n")
	}
	blocks.WriteString("load 9\n")
	called := strings.Repeat("func f\nload 63\ncall 1\nstore 63\n", (api.MaxCode-4)/4) + "nop\nnop\nload 63\n"
	small := "\nfunc f 1 64\n" + strings.Repeat("load 0\nint 1\nadd\nstore 0\n", 5) + "load 0\nret"
	for k, x := range []struct {
		text  string
		least int // how many steps are made by the code alone
	}{{known, api.MaxCode - 1}, {blocks.String(), (api.MaxCode-2)/3*2 + 1}, {called, (api.MaxCode-4)/4*26 + 3}} {
		p := parsed(t, "func main 0 64\n"+x.text+"ret"+small)
		if len(p.Funcs[0].Code) != api.MaxCode {
			t.Fatal(k, len(p.Funcs[0].Code))
		}
		prof := everywhere(p, api.Spot{Count: 1, A: 1 << api.Int, B: 1 << api.Int, Callee: 2})
		frame := api.Frame{Slots: slices.Repeat([]api.Value{{Kind: api.Int, N: 1}}, 64)}
		for _, passes := range []int{api.AllPasses, api.AllPasses - api.PassLive, api.PassInline | api.PassGuess} {
			c := compiled(t, p, 0, prof, passes)
			if err := lift.Check(p, factsOf(t, p), c); err != api.OK {
				t.Fatal(k, passes, err)
			}
			left := trial{p, api.Limits{Fuel: api.MaxFuel}, api.State{}, c, frame, 99, -1}.meets(t)
			if left.Why != api.LeftCode || left.Steps < x.least {
				t.Error(k, passes, left)
			}
		}
	}
}

// ins is an instruction.
func ins(op int, a int) api.Instr { return api.Instr{Op: op, A: int64(a)} }

// someProgram is a program that need not be one: of any operations, operands and sizes.
func someProgram(r *rand.Rand) api.Program {
	p := sample.Caller(r, 10)
	for range r.Intn(4) {
		f := &p.Funcs[r.Intn(len(p.Funcs))]
		switch r.Intn(8) {
		case 0:
			f.Locals = sample.Edge(r)
		case 1:
			f.Code = nil
		case 2:
			f.Handlers = append(f.Handlers, api.Handler{From: sample.Edge(r), To: sample.Edge(r), Target: r.Intn(4)})
		case 3:
			p.Consts = nil
		case 4:
			f.Code = f.Code[:r.Intn(len(f.Code)+1)]
		case 5:
			f.Params = sample.Edge(r)
		default:
			if len(f.Code) > 0 {
				f.Code[r.Intn(len(f.Code))] = ins(r.Intn(api.Ops+2)-1, sample.Edge(r))
			}
		}
	}
	return p
}

// someFacts are facts that need not be those of the program.
func someFacts(r *rand.Rand, p api.Program) api.Facts {
	var f api.Facts
	for _, fn := range p.Funcs {
		l := make([]int, len(fn.Code))
		if r.Intn(8) == 0 {
			l = make([]int, max(0, len(fn.Code)+r.Intn(3)-1))
		}
		for i := range l {
			l[i] = 6 + r.Intn(3)
			if r.Intn(40) == 0 {
				l[i] = sample.Edge(r)
			}
		}
		f.Heights = append(f.Heights, l)
		most := 6 + r.Intn(20)
		if r.Intn(4) == 0 {
			most = sample.Edge(r)
		}
		f.Most = append(f.Most, most)
	}
	if r.Intn(4) == 0 {
		f.Heights = f.Heights[:r.Intn(len(f.Heights)+1)]
		f.Most = f.Most[:r.Intn(len(f.Most)+1)]
	}
	return f
}

// R1 and R5: with programs and facts that don't fit one another all calls end, and a cache answers what Function does.
func TestAnyProgram(t *testing.T) {
	r := rand.New(rand.NewSource(1))
	made := 0
	for range 5000 {
		good := sample.Caller(r, 10)
		p, f := good, factsOf(t, good)
		if r.Intn(2) == 0 {
			p = someProgram(r)
		}
		if r.Intn(2) == 0 {
			f = someFacts(r, p)
		}
		prof, passes, fn := drawProfile(r, good), drawCallPasses(r), drawFunction(r, p)
		code, err := Function(p, f, fn, prof, passes)
		c := NewCache(p, f)
		held := c.All([]int{0, fn, 1, 2}, prof, passes)
		x, ok := c.Get(fn)
		if held[1] != (err == api.OK) || ok != held[1] || !sample.Same(x, code) || c.Compile(fn, prof, passes) != ok {
			t.Fatal(fn, passes, err, held, x)
		}
		if err != api.OK && !sample.Same(code, api.Code{}) {
			t.Fatal("beside", err, "stands", code)
		}
		made += c.Len()
	}
	if made < 5000 {
		t.Error("few were made:", made)
	}
	c := NewCache(api.Program{}, api.Facts{})
	if c.Compile(0, api.Profile{}, 31) || slices.Contains(c.All([]int{0, 1}, api.Profile{}, 0), true) || c.Len() != 0 {
		t.Error("of no program:", c.Len())
	}
}

// R1: numbers at all edges in the program and in its facts.
func TestMonstrousNumbers(t *testing.T) {
	for _, n := range sample.Edges() {
		for _, turn := range []func(p *api.Program, f *api.Facts, prof *api.Profile){
			func(p *api.Program, f *api.Facts, prof *api.Profile) { f.Most[0] = n },
			func(p *api.Program, f *api.Facts, prof *api.Profile) { f.Most[1] = n },
			func(p *api.Program, f *api.Facts, prof *api.Profile) { f.Heights[1][0] = n },
			func(p *api.Program, f *api.Facts, prof *api.Profile) { f.Heights[0][2] = n },
			func(p *api.Program, f *api.Facts, prof *api.Profile) { p.Funcs[0].Locals = n },
			func(p *api.Program, f *api.Facts, prof *api.Profile) { p.Funcs[1].Locals = n },
			func(p *api.Program, f *api.Facts, prof *api.Profile) { p.Funcs[1].Params = n },
			func(p *api.Program, f *api.Facts, prof *api.Profile) { p.Funcs[0].Code[2].A = int64(n) },
			func(p *api.Program, f *api.Facts, prof *api.Profile) { p.Funcs[1].Code[1].A = int64(n) },
			func(p *api.Program, f *api.Facts, prof *api.Profile) { prof.Funcs[0][2].Callee = n },
			func(p *api.Program, f *api.Facts, prof *api.Profile) { prof.Funcs[0][2].Count = int64(n) },
		} {
			p := parsed(t, "func main 0 0\nfunc f\nint 5\ncall 1\nret\nfunc f 1 1\nload 0\nload 0\nmul\nret")
			f, prof := factsOf(t, p), everywhere(p, api.Spot{A: 1 << api.Int, B: 1 << api.Int, Callee: 2})
			turn(&p, &f, &prof)
			for passes := range 32 {
				NewCache(p, f).All([]int{0, 1, n}, prof, passes)
			}
		}
	}
}
