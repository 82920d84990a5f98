package listing

import (
	"fmt"
	"math"
	"strings"
	"testing"

	"portage/api"
	"portage/asm"
	"portage/program"
)

// ofLength is a well-formed program whose listing has just so many bytes, somewhat above four millions.
func ofLength(n int) api.Program {
	p := alone([]api.Instr{{}})
	left := n - len("func main 0 0\n  nop\n")
	const around = len("const text \"\"\n")
	for k := 0; left > 8000; k++ {
		s := fmt.Sprintf("%04d", k)
		s += strings.Repeat("\x00", min(4092, (left-around-4000)/4))
		p.Consts = append(p.Consts, api.Const{Kind: api.Text, Text: s})
		left -= around + 4 + 4*(len(s)-4)
	}
	for _, c := range []string{"a", "b"} {
		m := min(left-around, 4000)
		if c == "a" {
			m = min(m, left-2*around-1)
		}
		p.Consts = append(p.Consts, api.Const{Kind: api.Text, Text: strings.Repeat(c, m)})
		left -= around + m
	}
	return p
}

// P12.1, P12.4: a listing of MaxSource bytes, and of a byte more.
func TestMaxSource(t *testing.T) {
	for _, n := range []int{api.MaxSource - 1, api.MaxSource} {
		p := ofLength(n)
		s, err := Program(p)
		if len(s) != n || err != api.OK {
			t.Fatal(n, len(s), err)
		}
		if q, line, err := asm.Parse(s); line != 0 || err != api.OK || !alike(p, q) {
			t.Fatal(n, line, err)
		}
	}
	for _, n := range []int{api.MaxSource + 1, api.MaxSource + 2, api.MaxSource + 100000} {
		p := ofLength(n)
		if at, err := program.Check(p); err != api.OK || len(toldProgram(p)) != n {
			t.Fatal(n, at, err, len(toldProgram(p)))
		}
		listed(t, "too long", p, "", api.ErrMany)
	}
}

// P12.1: Check's error comes ahead of the length.
func TestTooLongAndWrong(t *testing.T) {
	p := ofLength(api.MaxSource + 1)
	p.Funcs[0].Code[0].Op = api.Ops
	listed(t, "too long and wrong", p, "", api.ErrOp)
}

// great is a program of so many functions, as great as they may be, of one instruction each.
func great(n int, i api.Instr) api.Program {
	var p api.Program
	for k := range n {
		f := api.Function{Name: fmt.Sprintf("%032d", k), Locals: api.MaxLocals, Code: make([]api.Instr, api.MaxCode)}
		for pc := range f.Code {
			f.Code[pc] = i
		}
		for h := range api.MaxHandlers {
			f.Handlers = append(f.Handlers, api.Handler{From: h, To: api.MaxCode, Target: api.MaxCode - 1 - h, Height: 63})
		}
		p.Funcs = append(p.Funcs, f)
	}
	return p
}

// P12.1, P12.4: the greatest functions: as many as fit into a text, and too many.
func TestGreatest(t *testing.T) {
	for _, c := range []struct {
		n   int
		i   api.Instr
		err api.Errno
	}{
		{128, api.Instr{Op: api.OpJump, A: 1999}, api.OK},
		{128, api.Instr{Op: api.OpOr}, api.OK},
		{128, api.Instr{Op: api.OpInt, A: math.MinInt64}, api.ErrMany},
		{60, api.Instr{Op: api.OpInt, A: math.MinInt64}, api.OK},
		{128, api.Instr{Op: api.OpFunc, A: 127}, api.ErrMany},
		{40, api.Instr{Op: api.OpFunc, A: 39}, api.OK},
	} {
		p := great(c.n, c.i)
		s, err := Program(p)
		if err != c.err || (s == "") != (err != api.OK) {
			t.Fatal(c, len(s), err)
		}
		if err != api.OK {
			continue
		}
		if q, line, err := asm.Parse(s); line != 0 || err != api.OK || !alike(p, q) {
			t.Fatal(c, line, err)
		}
	}
}

// P12.1, P12.4: every place of the longest function has a label.
func TestAllPlaces(t *testing.T) {
	p := alone(make([]api.Instr, api.MaxCode), api.Handler{From: 0, To: api.MaxCode})
	for pc := range p.Funcs[0].Code {
		p.Funcs[0].Code[pc] = api.Instr{Op: api.OpJump, A: int64(api.MaxCode - 1 - pc)}
	}
	s, err := Program(p)
	if err != api.OK || s != toldProgram(p) || strings.Count(s, ":\n") != api.MaxCode+1 {
		t.Fatal(err)
	}
	if q, _, err := asm.Parse(s); err != api.OK || !alike(p, q) {
		t.Error(err)
	}
}

// R1: great register code ends soon: nothing is gone through again for each word.
func TestGreatCode(t *testing.T) {
	const n = 1 << 20
	opnds := make([]api.Opnd, n)
	for k := range opnds {
		opnds[k] = api.Opnd{Kind: api.AtInt, N: math.MinInt64}
	}
	word := " -9223372036854775808"
	all := strings.Repeat(word, n)
	in := api.RIns{Args: opnds, Exit: []api.Shape{{Slots: opnds}}}
	told(t, "operands", block(0, nil, in), "code 0 0\nblock 0 0\n  op0 nop 0 0 0 0 :"+all+" | 0 0"+all+"\n")
	told(t, "shapes", block(0, nil, api.RIns{Exit: make([]api.Shape, n)}), "code 0 0\nblock 0 0\n  op0 nop 0 0 0 0 :"+strings.Repeat(" | 0 0", n)+"\n")
	told(t, "blocks behind", block(0, make([]int, n)), "code 0 0\nblock 0 0"+strings.Repeat(" 0", n)+"\n")
	told(t, "instructions", block(0, nil, make([]api.RIns, n)...), "code 0 0\nblock 0 0\n"+strings.Repeat("  op0 nop 0 0 0 0 :\n", n))
	s := Code(api.Code{Blocks: make([]api.Block, n)})
	if strings.Count(s, "\n") != n+1 || !strings.HasSuffix(s, "\nblock 1048575 0\n") {
		t.Error("blocks")
	}
}
