package listing

import (
	"math"
	"testing"

	"portage/api"
	"portage/code"
)

// P12.2: the chapter's examples, and others put down by hand.
func TestInstr(t *testing.T) {
	p := sampleProgram(t)
	for _, c := range []struct {
		op   int
		a    int64
		want string
	}{
		{api.OpGetf, 7, "getf 7"},
		{api.OpFunc, 0, "func main"},
		{api.OpFunc, 1, "func half"},
		{api.OpFunc, 2, ""},
		{api.OpFunc, 127, ""},
		{api.OpFunc, 128, ""},
		{api.OpFunc, -1, ""},
		{api.OpFunc, math.MinInt64, ""},
		{api.OpNop, 0, "nop"},
		{api.OpNop, 1, ""},
		{api.OpInt, math.MinInt64, "int -9223372036854775808"},
		{api.OpInt, 0, "int 0"},
		{api.OpConst, 511, "const 511"},
		{api.OpConst, 512, ""},
		{api.OpLoad, 63, "load 63"},
		{api.OpLoad, 64, ""},
		{api.OpJump, 0, "jump L0"},
		{api.OpJz, 1999, "jz L1999"},
		{api.OpJnz, 7, "jnz L7"},
		{api.OpJnz, 2000, ""},
		{api.OpJump, -1, ""},
		{api.OpExt, 32, "ext 32"},
		{api.OpExt, 24, ""},
		{api.OpChan, 64, "chan 64"},
		{api.OpChan, 0, ""},
		{api.OpSpawn, 63, "spawn 63"},
		{api.OpBic, 0, "bic"},
		{api.Ops, 0, ""},
		{-1, 0, ""},
		{math.MaxInt64, 0, ""},
	} {
		if s, ok := Instr(p, api.Instr{Op: c.op, A: c.a}); s != c.want || ok != (c.want != "") {
			t.Errorf("%d %d: %q %v, and not %q", c.op, c.a, s, ok, c.want)
		}
	}
}

// P12.2: every operation, with operands about the edges of all kinds, in programs of few and of many functions.
func TestInstrs(t *testing.T) {
	edges := []int64{math.MinInt64, -1, 0, 1, 2, 8, 16, 24, 32, 62, 63, 64, 65, 126, 127, 128, 129, 511, 512, 1999, 2000, math.MaxInt64}
	for _, n := range []int{0, 1, 2, 127, 128, 129, 200} {
		p := api.Program{Funcs: make([]api.Function, n)}
		for k := range p.Funcs {
			p.Funcs[k].Name = "f" + number(k)
		}
		for op := -2; op < api.Ops+2; op++ {
			for _, a := range edges {
				i := api.Instr{Op: op, A: a}
				want := toldInstr(p, i)
				if s, ok := Instr(p, i); s != want || ok != (want != "") {
					t.Errorf("%d functions, %v: %q %v, and not %q", n, i, s, ok, want)
				}
			}
		}
	}
}

// P12.2: nothing but a function's name is looked at, and that is taken as it stands.
func TestNames(t *testing.T) {
	for _, name := range []string{"", " ", "a b", "a\nb", "#", "\"", "\xff", "main", "x:"} {
		p := api.Program{Consts: []api.Const{{Kind: 77}}, Funcs: []api.Function{{Name: "main", Params: -1}, {Name: name, Locals: -1}, {Name: "main"}}}
		if s, ok := Instr(p, api.Instr{Op: api.OpFunc, A: 1}); s != "func "+name || !ok {
			t.Errorf("%q: %q %v", name, s, ok)
		}
		for _, i := range []api.Instr{{Op: api.OpConst, A: 9}, {Op: api.OpLoad, A: 9}, {Op: api.OpJump, A: 9}, {Op: api.OpSetf, A: 0}} {
			s, ok := Instr(p, i)
			if want, is := Instr(api.Program{}, i); s != want || ok != is || !ok {
				t.Errorf("%v: %q %v", i, s, ok)
			}
		}
	}
}

// P12.2: Instr is false just where code.Check is not OK, or no function is there.
func TestInstrTaken(t *testing.T) {
	p := sampleProgram(t)
	for op := range api.Ops {
		for a := range int64(2100) {
			i := api.Instr{Op: op, A: a - 50}
			s, ok := Instr(p, i)
			if is := code.Check(i) == api.OK && (op != api.OpFunc || i.A < 2); ok != is || (s == "") == is {
				t.Fatalf("%v: %q %v", i, s, ok)
			}
		}
	}
}
