package listing

import (
	"math"
	"math/rand"
	"testing"

	"portage/api"
)

// told asks what Code tells.
func told(t *testing.T, what string, c api.Code, want string) {
	t.Helper()
	if s := Code(c); s != want {
		t.Errorf("%s: %q, and not %q", what, begin(s), begin(want))
	}
}

// block is register code of one block, of no function.
func block(pc int, next []int, l ...api.RIns) api.Code {
	return api.Code{Blocks: []api.Block{{PC: pc, Ins: l, Next: next}}}
}

// P12.3: the chapter's examples.
func TestCodeExamples(t *testing.T) {
	told(t, "no blocks", api.Code{Fn: 1, Regs: 2}, "code 1 2\n")
	add := api.RIns{Op: api.RPure, Code: api.OpAdd, Dst: 1, N: 2, PC: 4, Args: []api.Opnd{{}, {Kind: api.AtInt, N: 5}}}
	told(t, "an add", block(4, []int{1, 0}, add), "code 0 0\nblock 0 4 1 0\n  pure add 1 2 4 0 : r0 5\n")
	point := api.RIns{Op: api.RPoint, Dst: -1, PC: 4, Need: 3, Exit: []api.Shape{
		{PC: 4, Slots: []api.Opnd{{}, {Kind: api.AtNil}, {Kind: api.AtReal, N: 0x3fe0000000000000}}},
	}}
	told(t, "a point", block(0, nil, point), "code 0 0\nblock 0 0\n  point nop -1 0 4 3 : | 0 4 r0 nil 0.5\n")
}

// P12.3: what an instruction is, and its operation, at the edges of both.
func TestWhat(t *testing.T) {
	for op, want := range map[int]string{
		1: "move", 2: "pure", 3: "plain", 4: "guard", 5: "callee", 6: "point", 7: "jump", 8: "branch", 9: "leave",
		0: "op0", 10: "op10", -1: "op-1", math.MinInt64: "op-9223372036854775808", math.MaxInt64: "op9223372036854775807",
	} {
		told(t, "what", block(0, nil, api.RIns{Op: op}), "code 0 0\nblock 0 0\n  "+want+" nop 0 0 0 0 :\n")
	}
	for op, want := range map[int]string{
		0: "nop", 1: "nil", 12: "add", 42: "jnz", 66: "bic", 67: "67", -1: "-1", math.MinInt64: "-9223372036854775808",
	} {
		told(t, "operation", block(0, nil, api.RIns{Op: 3, Code: op}), "code 0 0\nblock 0 0\n  plain "+want+" 0 0 0 0 :\n")
	}
}

// P12.3: an operand's word.
func TestOperands(t *testing.T) {
	real := func(x uint64) api.Opnd { return api.Opnd{Kind: api.AtReal, N: int64(x)} }
	for o, want := range map[api.Opnd]string{
		{Kind: api.AtReg}:                       "r0",
		{Kind: api.AtReg, N: -1}:                "r-1",
		{Kind: api.AtReg, N: math.MaxInt64}:     "r9223372036854775807",
		{Kind: api.AtConst}:                     "c0",
		{Kind: api.AtConst, N: 511}:             "c511",
		{Kind: api.AtFunc}:                      "f0",
		{Kind: api.AtFunc, N: -2}:               "f-2",
		{Kind: api.AtNil}:                       "nil",
		{Kind: api.AtNil, N: 1}:                 "1:1",
		{Kind: api.AtNil, N: -1}:                "1:-1",
		{Kind: api.AtBool}:                      "false",
		{Kind: api.AtBool, N: 1}:                "true",
		{Kind: api.AtBool, N: 2}:                "2:2",
		{Kind: api.AtBool, N: -1}:               "2:-1",
		{Kind: api.AtInt}:                       "0",
		{Kind: api.AtInt, N: 1}:                 "1",
		{Kind: api.AtInt, N: math.MinInt64}:     "-9223372036854775808",
		{Kind: 7}:                               "7:0",
		{Kind: 7, N: 9}:                         "7:9",
		{Kind: -1}:                              "-1:0",
		{Kind: math.MinInt64, N: math.MinInt64}: "-9223372036854775808:-9223372036854775808",
		real(0):                                 "0.0",
		real(1 << 63):                           "-0.0",
		real(0x3ff0000000000000):                "1.0",
		real(0x7ff0000000000000):                "inf",
		real(0xfff0000000000000):                "-inf",
		real(0x7ff8000000000000):                "nan",
		real(0x7ff8000000000001):                "4:9221120237041090561",
		real(0x7ff0000000000001):                "4:9218868437227405313",
		real(0xfff8000000000000):                "4:-2251799813685248",
		real(math.MaxUint64):                    "4:-1",
		real(0x444b1ae4d6e2ef50):                "1e+21",
		real(1):                                 "5e-324",
	} {
		in := api.RIns{Op: 9, Args: []api.Opnd{o, o}, Exit: []api.Shape{{Slots: []api.Opnd{o}}}}
		told(t, "operand", block(0, nil, in), "code 0 0\nblock 0 0\n  leave nop 0 0 0 0 : "+want+" "+want+" | 0 0 "+want+"\n")
	}
}

// P12.3: the fields of an instruction in their order, several shapes, blocks and numbers behind a block.
func TestFields(t *testing.T) {
	in := api.RIns{Op: 3, Code: 53, Dst: 1, N: 2, PC: 3, Need: 4, Args: []api.Opnd{{N: 5}}, Exit: []api.Shape{
		{Fn: 6, PC: 7, Slots: []api.Opnd{{N: 8}, {N: 9}}}, {Fn: 10, PC: 11}, {Fn: -12, PC: -13, Slots: []api.Opnd{{Kind: api.AtInt, N: 14}}},
	}}
	c := api.Code{Fn: -1, Regs: -2, Blocks: []api.Block{{PC: 15, Next: []int{16}}, {PC: 17, Next: []int{18, -19, 20}, Ins: []api.RIns{in, {}}}, {PC: -21}}}
	told(t, "fields", c, lines("code -1 -2/block 0 15 16/block 1 17 18 -19 20/"+
		"  plain getf 1 2 3 4 : r5 | 6 7 r8 r9 | 10 11 | -12 -13 14/  op0 nop 0 0 0 0 :/block 2 -21/"))
}

// P12.3: the example of chapter 19, as register code, line by line.
func TestLoop(t *testing.T) {
	regs := func(n int) []api.Opnd {
		var l []api.Opnd
		for k := range n {
			l = append(l, api.Opnd{N: int64(k)})
		}
		return l
	}
	at := func(pc, n int) []api.Shape { return []api.Shape{{Fn: 1, PC: pc, Slots: regs(n)}} }
	int1 := []api.Opnd{{Kind: api.AtInt, N: 1}}
	c := api.Code{Fn: 1, Regs: 4, Blocks: []api.Block{
		{PC: 0, Next: []int{0, 1}, Ins: []api.RIns{
			{Op: api.RPoint, Dst: -1, Need: 2, Exit: at(0, 1)},
			{Op: api.RMove, Dst: 1, Args: int1},
			{Op: api.RMove, Dst: 2, Args: regs(1), PC: 1},
			{Op: api.RPlain, Code: api.OpAdd, Dst: 1, Args: regs(3)[1:], PC: 2, Need: 4, Exit: at(2, 3)},
			{Op: api.RBranch, Code: api.OpJnz, Dst: -1, Args: regs(2)[1:], PC: 7},
		}},
		{PC: 8, Ins: []api.RIns{{Op: api.RLeave, Dst: -1, PC: 9, Exit: at(9, 2)}}},
	}}
	told(t, "a loop", c, lines("code 1 4/block 0 0 0 1/  point nop -1 0 0 2 : | 1 0 r0/  move nop 1 0 0 0 : 1/  move nop 2 0 1 0 : r0/"+
		"  plain add 1 0 2 4 : r1 r2 | 1 2 r0 r1 r2/  branch jnz -1 0 7 0 : r1/block 1 8/  leave nop -1 0 9 0 : | 1 9 r0 r1/"))
}

// P12.3: register code of all kinds, right or not.
func TestCodes(t *testing.T) {
	r := rand.New(rand.NewSource(3))
	for range 20000 {
		c := someCode(r)
		if s, want := Code(c), toldCode(c); s != want {
			t.Fatalf("%v: %q, and not %q", c, s, want)
		}
	}
}
