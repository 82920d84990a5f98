package listing

import (
	"math/rand"
	"slices"
	"strings"
	"testing"

	"portage/api"
	"portage/asm"
	"portage/program"
)

// sample is the first example of chapter 11.
const sample = `const real 0.5          # constant 0
const text "a\n\x00"
func main 0 1
  int 3
  store 0
again:
  func half
  load 0
  call 1
  print
  load 0
  int 1
  sub
  store 0
  int 0
  load 0
  lt
  jnz again
  nil
  ret
func half 1 1
from:
  load 0
  const 0
  mul
  ret
to:
  handler from to other 0
other:
  ret
`

// sampleText is the chapter's listing of it.
const sampleText = `const real 0.5/const text "a\n\x00"/func main 0 1/  int 3/  store 0/L2:/  func half/  load 0/  call 1/  print/  load 0/  int 1/  sub/  store 0/  int 0/  load 0/  lt/  jnz L2/  nil/  ret/func half 1 1/L0:/  load 0/  const 0/  mul/  ret/L4:/  ret/  handler L0 L4 L4 0/`

// sampleProgram is the program of the sample.
func sampleProgram(t *testing.T) api.Program {
	t.Helper()
	p, line, err := asm.Parse(sample)
	if err != api.OK {
		t.Fatal(line, err)
	}
	return p
}

// listed asks what Program tells.
func listed(t *testing.T, what string, p api.Program, want string, err api.Errno) {
	t.Helper()
	if s, e := Program(p); s != want || e != err {
		t.Errorf("%s: %v %q, and not %v %q", what, e, begin(s), err, begin(want))
	}
}

// P12.1: the chapter's example.
func TestSample(t *testing.T) {
	listed(t, "the sample", sampleProgram(t), lines(sampleText), api.OK)
}

// alone is a program of one function.
func alone(l []api.Instr, h ...api.Handler) api.Program {
	return api.Program{Funcs: []api.Function{{Name: "main", Code: l, Handlers: h}}}
}

// P12.1: which places have a label, the one behind the last instruction too.
func TestLabels(t *testing.T) {
	nops := func(n int) []api.Instr { return make([]api.Instr, n) }
	to := func(op int, a int64) []api.Instr { return []api.Instr{{}, {Op: op, A: a}, {}} }
	for _, c := range []struct {
		what string
		p    api.Program
		want string
	}{
		{"none", alone(nops(2)), "  nop/  nop/"},
		{"jump ahead", alone(to(api.OpJump, 2)), "  nop/  jump L2/L2:/  nop/"},
		{"jump back", alone(to(api.OpJump, 0)), "L0:/  nop/  jump L0/  nop/"},
		{"jz to itself", alone(to(api.OpJz, 1)), "  nop/L1:/  jz L1/  nop/"},
		{"jnz", alone(to(api.OpJnz, 2)), "  nop/  jnz L2/L2:/  nop/"},
		{"an operand that is no place", alone(to(api.OpInt, 0)), "  nop/  int 0/  nop/"},
		{"so of call", alone(to(api.OpCall, 2)), "  nop/  call 2/  nop/"},
		{"two of one place", alone([]api.Instr{{Op: api.OpJump, A: 1}, {Op: api.OpJz, A: 1}}), "  jump L1/L1:/  jz L1/"},
		{"a handler", alone(nops(3), api.Handler{From: 0, To: 2, Target: 1, Height: 5}), "L0:/  nop/L1:/  nop/L2:/  nop/  handler L0 L2 L1 5/"},
		{"to the end", alone(nops(2), api.Handler{From: 1, To: 2, Target: 1, Height: 63}), "  nop/L1:/  nop/L2:/  handler L1 L2 L1 63/"},
		{"two to the end", alone(nops(1), api.Handler{From: 0, To: 1}, api.Handler{From: 0, To: 1}), "L0:/  nop/L1:/  handler L0 L1 L0 0/  handler L0 L1 L0 0/"},
		{"in their order", alone(nops(3), api.Handler{From: 2, To: 3, Target: 2}, api.Handler{From: 0, To: 1, Target: 2}), "L0:/  nop/L1:/  nop/L2:/  nop/L3:/  handler L2 L3 L2 0/  handler L0 L1 L2 0/"},
	} {
		listed(t, c.what, c.p, "func main 0 0\n"+lines(c.want), api.OK)
	}
}

// P12.1: a label is a function's own.
func TestLabelsApart(t *testing.T) {
	f := func(name string, l ...api.Instr) api.Function { return api.Function{Name: name, Code: l} }
	p := api.Program{Funcs: []api.Function{
		f("a", api.Instr{}, api.Instr{Op: api.OpJump, A: 1}), f("b", api.Instr{Op: api.OpJump}, api.Instr{}), f("c", api.Instr{}, api.Instr{}),
	}}
	p.Funcs[2].Params, p.Funcs[2].Locals = 2, 64
	listed(t, "three", p, lines("func a 0 0/  nop/L1:/  jump L1/func b 0 0/L0:/  jump L0/  nop/func c 2 64/  nop/  nop/"), api.OK)
}

// P12.1: constants of both kinds, in their order.
func TestConstants(t *testing.T) {
	p := alone([]api.Instr{{}})
	bits := func(x uint64) api.Const { return api.Const{Kind: api.Real, N: int64(x)} }
	text := func(s string) api.Const { return api.Const{Kind: api.Text, Text: s} }
	p.Consts = []api.Const{
		text(""), bits(1 << 63), bits(0), bits(0x7ff8000000000000), bits(0xfff0000000000000), text("nan"), bits(1), text(" # \"\\/\xff\t"), bits(0x444b1ae4d6e2ef50),
	}
	want := "const text \"\"\nconst real -0.0\nconst real 0.0\nconst real nan\nconst real -inf\nconst text \"nan\"\nconst real 5e-324\n" +
		"const text \" # \\\"\\\\/\\xff\\x09\"\nconst real 1e+21\nfunc main 0 0\n  nop\n"
	listed(t, "nine", p, want, api.OK)
}

// P12.1: what is not well-formed has Check's error and no text.
func TestRefused(t *testing.T) {
	for _, c := range []struct {
		what  string
		spoil func(p *api.Program)
		err   api.Errno
	}{
		{"another NaN", func(p *api.Program) { p.Consts[0].N = -1 }, api.ErrForm},
		{"a constant twice", func(p *api.Program) { p.Consts[1] = p.Consts[0] }, api.ErrTwice},
		{"a long text", func(p *api.Program) { p.Consts[1].Text = strings.Repeat("a", 4097) }, api.ErrMany},
		{"no function", func(p *api.Program) { p.Funcs = nil }, api.ErrShort},
		{"a name", func(p *api.Program) { p.Funcs[1].Name = "a b" }, api.ErrText},
		{"main's parameters", func(p *api.Program) { p.Funcs[0].Params = 1 }, api.ErrArg},
		{"no such operation", func(p *api.Program) { p.Funcs[1].Code[4].Op = 67 }, api.ErrOp},
		{"no such place", func(p *api.Program) { p.Funcs[0].Code[13].A = 16 }, api.ErrIndex},
		{"no such function", func(p *api.Program) { p.Funcs[0].Code[2].A = 2 }, api.ErrIndex},
		{"a handler's end", func(p *api.Program) { p.Funcs[1].Handlers[0].To = 6 }, api.ErrIndex},
		{"a handler's target", func(p *api.Program) { p.Funcs[1].Handlers[0].Target = -1 }, api.ErrIndex},
	} {
		p := sampleProgram(t)
		c.spoil(&p)
		listed(t, c.what, p, "", c.err)
	}
	listed(t, "nothing", api.Program{}, "", api.ErrShort)
}

// P12.1: programs of all kinds, and spoilt ones.
func TestPrograms(t *testing.T) {
	r := rand.New(rand.NewSource(1))
	seen := map[api.Errno]int{}
	for range 20000 {
		p := someProgram(r)
		if r.Intn(3) == 0 {
			spoil(r, &p)
		}
		want := ""
		_, err := program.Check(p)
		if err == api.OK {
			want = toldProgram(p)
		}
		if s, e := Program(p); s != want || e != err {
			t.Fatalf("%v: %v %q, and not %v %q", p, e, s, err, want)
		}
		seen[err]++
	}
	for _, e := range []api.Errno{api.OK, api.ErrArg, api.ErrShort, api.ErrForm, api.ErrMany, api.ErrText, api.ErrOp, api.ErrIndex, api.ErrTwice} {
		if seen[e] < 20 {
			t.Error(e, seen[e])
		}
	}
}

// P12.1: all functions of up to three instructions out of some, with all handlers that are right.
func TestShortFunctions(t *testing.T) {
	pool := []api.Instr{{}, {Op: api.OpFunc}, {Op: api.OpJump, A: 0}, {Op: api.OpJz, A: 1}, {Op: api.OpJnz, A: 2}}
	var grow func(l []api.Instr)
	grow = func(l []api.Instr) {
		for _, h := range append(rightHandlers(len(l)), nil) {
			p := alone(l, h...)
			if _, err := program.Check(p); err == api.OK {
				listed(t, "short", p, toldProgram(p), api.OK)
			}
		}
		for k := 0; k < len(pool) && len(l) < 3; k++ {
			grow(append(slices.Clone(l), pool[k]))
		}
	}
	grow(nil)
}

// rightHandlers are all handlers, one by one, and some in pairs, of a function of so many instructions.
func rightHandlers(n int) [][]api.Handler {
	var all [][]api.Handler
	for from := range n {
		for to := from + 1; to <= n; to++ {
			for target := range n {
				h := api.Handler{From: from, To: to, Target: target, Height: to}
				all = append(all, []api.Handler{h}, []api.Handler{h, {From: 0, To: n, Target: n - 1}})
			}
		}
	}
	return all
}
