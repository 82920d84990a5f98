package program

import (
	"fmt"
	"slices"
	"strings"
	"testing"

	"portage/api"
	"portage/code"
)

// try is a program with what Check must answer.
type try struct {
	name  string
	spoil func(p *api.Program)
	fn    int
	pc    int
	err   api.Errno
}

// hold spoils a copy of a program for each try, and asks Check.
func hold(t *testing.T, p api.Program, tries []try) {
	t.Helper()
	for _, c := range tries {
		q := deep(p)
		c.spoil(&q)
		if at, err := Check(q); at != (api.Place{Fn: c.fn, PC: c.pc}) || err != c.err {
			t.Errorf("%s: %v %v, not %d %d %v", c.name, at, err, c.fn, c.pc, c.err)
		}
	}
}

// The chapter's examples.
func TestExamples(t *testing.T) {
	hold(t, first(), []try{
		{"as it is", func(p *api.Program) {}, 0, 0, api.OK},
		{"Params 1, Locals 1", func(p *api.Program) { p.Funcs[0].Params, p.Funcs[0].Locals = 1, 1 }, 0, 0, api.ErrArg},
		{"jump 2", func(p *api.Program) { p.Funcs[0].Code = slices.Insert(p.Funcs[0].Code, 0, ins(api.OpJump, 2)) }, 0, 0, api.OK},
		{"jump 3", func(p *api.Program) { p.Funcs[0].Code = slices.Insert(p.Funcs[0].Code, 0, ins(api.OpJump, 3)) }, 0, 0, api.ErrIndex},
		{"a twice", func(p *api.Program) { p.Consts = []api.Const{text("a"), bits(0x3fe0000000000000), text("a")} }, -1, 2, api.ErrTwice},
		{"handlers", func(p *api.Program) {
			p.Funcs[0].Handlers = []api.Handler{{From: 0, To: 2, Target: 1}, {From: 1, To: 1}}
		}, 0, 1, api.ErrIndex},
		{"no function", func(p *api.Program) { p.Funcs = nil }, 0, 0, api.ErrShort},
		{"f g", func(p *api.Program) { p.Funcs = append(p.Funcs, nops("f g", 1)) }, 1, 0, api.ErrText},
	})
	hold(t, full(), []try{{"full", func(p *api.Program) {}, 0, 0, api.OK}})
}

// P8.1: how many constants there may be.
func TestManyConsts(t *testing.T) {
	many := func(n int) []api.Const {
		l := make([]api.Const, n)
		for i := range l {
			l[i] = bits(uint64(i))
		}
		return l
	}
	hold(t, first(), []try{
		{"511", func(p *api.Program) { p.Consts = many(511) }, 0, 0, api.OK},
		{"512", func(p *api.Program) { p.Consts = many(512) }, 0, 0, api.OK},
		{"513", func(p *api.Program) { p.Consts = many(513) }, -1, 512, api.ErrMany},
		{"513, the first wrong", func(p *api.Program) { p.Consts = many(513); p.Consts[0].Kind = 0 }, -1, 512, api.ErrMany},
		{"514, and no function", func(p *api.Program) { p.Consts = many(514); p.Funcs = nil }, -1, 512, api.ErrMany},
		{"512, two the same", func(p *api.Program) { p.Consts = many(512); p.Consts[511].N = 0 }, -1, 511, api.ErrTwice},
	})
}

// P8.1: the constants, one by one.
func TestConsts(t *testing.T) {
	for _, c := range []struct {
		name string
		l    []api.Const
		pc   int
		err  api.Errno
	}{
		{"nil", []api.Const{{}}, 0, api.ErrForm},
		{"int", []api.Const{text("a"), {Kind: api.Int, N: 1}}, 1, api.ErrForm},
		{"bool", []api.Const{{Kind: api.Bool}}, 0, api.ErrForm},
		{"func", []api.Const{{Kind: api.Func}}, 0, api.ErrForm},
		{"below all kinds", []api.Const{{Kind: -1}}, 0, api.ErrForm},
		{"3 but for its lowest byte", []api.Const{{Kind: api.Real + 256}}, 0, api.ErrForm},
		{"a real with a text", []api.Const{{Kind: api.Real, Text: "a"}}, 0, api.ErrForm},
		{"a real with a long text", []api.Const{{Kind: api.Real, Text: strings.Repeat("a", 4097)}}, 0, api.ErrForm},
		{"a text with a number", []api.Const{{Kind: api.Text, N: 1, Text: "a"}}, 0, api.ErrForm},
		{"a text with a number below 0", []api.Const{{Kind: api.Text, N: -1}}, 0, api.ErrForm},
		{"a long text with a number", []api.Const{{Kind: api.Text, N: 1, Text: strings.Repeat("a", 4097)}}, 0, api.ErrForm},
		{"the one NaN", []api.Const{bits(oneNaN)}, 0, api.OK},
		{"the NaN above it", []api.Const{bits(oneNaN + 1)}, 0, api.ErrForm},
		{"the NaN below it", []api.Const{bits(oneNaN - 1)}, 0, api.ErrForm},
		{"the one NaN with a sign", []api.Const{bits(oneNaN | 1<<63)}, 0, api.ErrForm},
		{"the lowest NaN", []api.Const{bits(0x7ff0000000000001)}, 0, api.ErrForm},
		{"all bits", []api.Const{bits(1<<64 - 1)}, 0, api.ErrForm},
		{"the infinite ones", []api.Const{bits(0x7ff0000000000000), bits(0xfff0000000000000)}, 0, api.OK},
		{"0 and -0", []api.Const{bits(0), bits(1 << 63)}, 0, api.OK},
		{"0 and the empty text", []api.Const{bits(0), text("")}, 0, api.OK},
		{"0 twice", []api.Const{bits(0), text(""), bits(0)}, 2, api.ErrTwice},
		{"the empty text twice", []api.Const{text(""), text("")}, 1, api.ErrTwice},
		{"the one NaN twice", []api.Const{bits(oneNaN), bits(1), bits(oneNaN)}, 2, api.ErrTwice},
		{"4096 bytes", []api.Const{text(strings.Repeat("\x00", 4096))}, 0, api.OK},
		{"4097 bytes", []api.Const{text("a"), text(strings.Repeat("\x00", 4097))}, 1, api.ErrMany},
		{"of two faults the one ahead", []api.Const{text("a"), text("a"), {}}, 1, api.ErrTwice},
		{"two that are wrong, and the same", []api.Const{{Kind: api.Int}, {Kind: api.Int}}, 0, api.ErrForm},
		{"bytes that are no UTF-8", []api.Const{text("\xff"), text("\xfe"), text("\xef\xbf\xbd")}, 0, api.OK},
	} {
		p := first()
		p.Consts = c.l
		want := api.Place{Fn: -1, PC: c.pc}
		if c.err == api.OK {
			want = api.Place{}
		}
		if at, err := Check(p); at != want || err != c.err {
			t.Errorf("%s: %v %v", c.name, at, err)
		}
		p.Funcs = nil
		if at, err := Check(p); c.err != api.OK && (at != want || err != c.err) {
			t.Errorf("%s, and no function: %v %v", c.name, at, err)
		}
	}
}

// P8.1: how many functions there may be.
func TestManyFuncs(t *testing.T) {
	many := func(n int) []api.Function {
		l := make([]api.Function, n)
		for k := range l {
			l[k] = nops(fmt.Sprint("f", k), 1)
		}
		return l
	}
	hold(t, first(), []try{
		{"127", func(p *api.Program) { p.Funcs = many(127) }, 0, 0, api.OK},
		{"128", func(p *api.Program) { p.Funcs = many(128) }, 0, 0, api.OK},
		{"129", func(p *api.Program) { p.Funcs = many(129) }, 128, 0, api.ErrMany},
		{"130, the first wrong", func(p *api.Program) { p.Funcs = many(130); p.Funcs[0].Name = "" }, 128, 0, api.ErrMany},
		{"128, two the same", func(p *api.Program) { p.Funcs = many(128); p.Funcs[127].Name = "f0" }, 127, 0, api.ErrTwice},
		{"an empty list", func(p *api.Program) { p.Funcs = []api.Function{} }, 0, 0, api.ErrShort},
	})
}

// P8.1: the bytes of a right name are those, and no others.
func TestNames(t *testing.T) {
	const right = "abcdefghijklmnopqrstuvwxyzABCDEFGHIJKLMNOPQRSTUVWXYZ0123456789_"
	for b := range 256 {
		for _, name := range []string{string([]byte{byte(b)}), "x" + string([]byte{byte(b)}), string([]byte{byte(b)}) + "x"} {
			p := first()
			p.Funcs = append(p.Funcs, nops(name, 1))
			at, err := Check(p)
			if is := strings.IndexByte(right, byte(b)) >= 0; is && (at != api.Place{} || err != api.OK) || !is && (at != api.Place{Fn: 1} || err != api.ErrText) {
				t.Errorf("%q: %v %v", name, at, err)
			}
		}
	}
	name := func(s string) func(p *api.Program) { return func(p *api.Program) { p.Funcs[1].Name = s } }
	hold(t, full(), []try{
		{"no byte", name(""), 1, 0, api.ErrText},
		{"32 bytes", name(strings.Repeat("a", 32)), 0, 0, api.OK},
		{"33 bytes", name(strings.Repeat("a", 33)), 1, 0, api.ErrMany},
		{"33 bytes, the last wrong", name(strings.Repeat("a", 32) + "-"), 1, 0, api.ErrText},
		{"main's", name("main"), 1, 0, api.ErrTwice},
		{"that of the one behind it", name("Z9"), 2, 0, api.ErrTwice},
		{"another case", name("z9"), 0, 0, api.OK},
		{"a letter of two bytes", name("é"), 1, 0, api.ErrText},
	})
	hold(t, first(), []try{
		{"function 0 need not be called main", name0("x"), 0, 0, api.OK},
		{"no byte", name0(""), 0, 0, api.ErrText},
	})
	hold(t, full(), []try{
		{"33 bytes, twice: the first of them", func(p *api.Program) {
			p.Funcs[1].Name = strings.Repeat("a", 33)
			p.Funcs[2].Name = strings.Repeat("a", 33)
		}, 1, 0, api.ErrMany},
	})
}

func name0(s string) func(p *api.Program) { return func(p *api.Program) { p.Funcs[0].Name = s } }

// P8.1: parameters, locals, and how many instructions.
func TestSizes(t *testing.T) {
	sizes := func(k, params, locals int) func(p *api.Program) {
		return func(p *api.Program) {
			p.Funcs[k] = nops(p.Funcs[k].Name, 1)
			p.Funcs[k].Params, p.Funcs[k].Locals = params, locals
		}
	}
	length := func(n int) func(p *api.Program) {
		return func(p *api.Program) { p.Funcs[1] = nops("f", n) }
	}
	hold(t, full(), []try{
		{"0 0", sizes(1, 0, 0), 0, 0, api.OK},
		{"64 64", sizes(1, 64, 64), 0, 0, api.OK},
		{"0 64", sizes(1, 0, 64), 0, 0, api.OK},
		{"0 65", sizes(1, 0, 65), 1, 0, api.ErrMany},
		{"65 65", sizes(1, 65, 65), 1, 0, api.ErrMany},
		{"65 64", sizes(1, 65, 64), 1, 0, api.ErrArg},
		{"-1 0", sizes(1, -1, 0), 1, 0, api.ErrArg},
		{"-1 65", sizes(1, -1, 65), 1, 0, api.ErrArg},
		{"-2 -1", sizes(1, -2, -1), 1, 0, api.ErrArg},
		{"0 -1", sizes(1, 0, -1), 1, 0, api.ErrArg},
		{"2 1", sizes(1, 2, 1), 1, 0, api.ErrArg},
		{"main's 0 64", sizes(0, 0, 64), 0, 0, api.OK},
		{"main's 1 1", sizes(0, 1, 1), 0, 0, api.ErrArg},
		{"main's 1 65", sizes(0, 1, 65), 0, 0, api.ErrArg},
		{"main's 0 65", sizes(0, 0, 65), 0, 0, api.ErrMany},
		{"no instruction", length(0), 1, 0, api.ErrShort},
		{"1999", length(1999), 0, 0, api.OK},
		{"2000", length(2000), 0, 0, api.OK},
		{"2001", length(2001), 1, 2000, api.ErrMany},
		{"2001, the first wrong", func(p *api.Program) { p.Funcs[1] = nops("f", 2001); p.Funcs[1].Code[0].Op = -1 }, 1, 2000, api.ErrMany},
		{"no instruction, and many locals", func(p *api.Program) { p.Funcs[1].Code, p.Funcs[1].Locals = nil, 65 }, 1, 0, api.ErrMany},
		{"no instruction, and a handler", func(p *api.Program) { p.Funcs[2].Code = []api.Instr{} }, 2, 0, api.ErrShort},
	})
}

// P8.1: code.Check's error comes ahead of the operand that names nothing, instruction by instruction.
func TestInstructions(t *testing.T) {
	put := func(k, pc, op int, a int64) func(p *api.Program) {
		return func(p *api.Program) { p.Funcs[k].Code[pc] = ins(op, a) }
	}
	hold(t, full(), []try{
		{"no operation", put(2, 5, 67, 0), 2, 5, api.ErrOp},
		{"below all operations", put(2, 5, -1, 0), 2, 5, api.ErrOp},
		{"an operand too many", put(1, 0, api.OpNop, 1), 1, 0, api.ErrOp},
		{"a place that is never one", put(1, 1, api.OpJump, 2000), 1, 1, api.ErrOp},
		{"a place below 0", put(1, 1, api.OpJz, -1), 1, 1, api.ErrOp},
		{"a local that is never one", put(1, 1, api.OpLoad, 64), 1, 1, api.ErrOp},
		{"a constant that is never one", put(1, 1, api.OpConst, 512), 1, 1, api.ErrOp},
		{"a function that is never one", put(1, 1, api.OpFunc, 128), 1, 1, api.ErrOp},
		{"a constant below 0", put(1, 1, api.OpGetf, -1), 1, 1, api.ErrOp},
		{"the last place", put(1, 1, api.OpJnz, 1), 0, 0, api.OK},
		{"the place behind it", put(1, 1, api.OpJnz, 2), 1, 1, api.ErrIndex},
		{"so of jz", put(1, 1, api.OpJz, 2), 1, 1, api.ErrIndex},
		{"so of jump, at the last place that can be", put(1, 1, api.OpJump, 1999), 1, 1, api.ErrIndex},
		{"the last local", put(1, 1, api.OpStore, 2), 0, 0, api.OK},
		{"the local behind it", put(1, 1, api.OpStore, 3), 1, 1, api.ErrIndex},
		{"so of load", put(1, 1, api.OpLoad, 3), 1, 1, api.ErrIndex},
		{"the last constant", put(1, 1, api.OpConst, 3), 0, 0, api.OK},
		{"the constant behind it", put(1, 1, api.OpConst, 4), 1, 1, api.ErrIndex},
		{"the last function", put(1, 1, api.OpFunc, 2), 0, 0, api.OK},
		{"the function behind it", put(1, 1, api.OpFunc, 3), 1, 1, api.ErrIndex},
		{"of two faults the one ahead", func(p *api.Program) {
			p.Funcs[2].Code[3] = ins(api.OpLoad, 2)
			p.Funcs[2].Code[4] = ins(67, 0)
		}, 2, 3, api.ErrIndex},
		{"a fault ahead of the next function's", func(p *api.Program) {
			p.Funcs[1].Code[1] = ins(api.OpLoad, 3)
			p.Funcs[2].Name = ""
		}, 1, 1, api.ErrIndex},
		{"a handler of the function ahead", func(p *api.Program) {
			p.Funcs[0].Handlers[1].From = 5
			p.Funcs[1].Name = ""
		}, 0, 1, api.ErrIndex},
		{"an instruction ahead of too many handlers", func(p *api.Program) {
			p.Funcs[0].Code[4] = ins(api.OpStore, 2)
			p.Funcs[0].Handlers = make([]api.Handler, 33)
		}, 0, 4, api.ErrIndex},
	})
	for _, op := range []int{api.OpGetf, api.OpSetf, api.OpHasf, api.OpDelf} {
		hold(t, full(), []try{
			{"a field by a text", put(1, 0, op, 1), 0, 0, api.OK},
			{"a field by the empty text", put(1, 0, op, 2), 0, 0, api.OK},
			{"a field by a real", put(1, 0, op, 0), 1, 0, api.ErrIndex},
			{"a field by the one NaN", put(1, 0, op, 3), 1, 0, api.ErrIndex},
			{"a field by no constant", put(1, 0, op, 4), 1, 0, api.ErrIndex},
		})
	}
}

// P8.1: an operand that names nothing of the program is free to be any right one.
func TestOtherOperands(t *testing.T) {
	for op := range api.Ops {
		kind, _ := code.Operand(op)
		p := first()
		for _, a := range []int64{0, 1, 8, 16, 32, 63, 64, -1, 1 << 62, -1 << 63} {
			i := ins(op, a)
			p.Funcs[0].Code[0] = i
			want := code.Check(i)
			if named := kind == code.Place && a > 1 || kind == code.Funcs && a > 0 || kind == code.Local || kind == code.Consts; named && want == api.OK {
				want = api.ErrIndex
			}
			if at, err := Check(p); at != (api.Place{}) || err != want {
				t.Errorf("%v: %v %v", i, at, err)
			}
		}
	}
}

// P8.1: handlers, at both ends of each of their numbers.
func TestHandlers(t *testing.T) {
	one := func(from, to, target, height int) func(p *api.Program) {
		return func(p *api.Program) {
			p.Funcs[2].Handlers = append(p.Funcs[2].Handlers, api.Handler{From: from, To: to, Target: target, Height: height})
		}
	}
	many := func(n int) func(p *api.Program) {
		return func(p *api.Program) {
			p.Funcs[1].Handlers = make([]api.Handler, n)
			for h := range n {
				p.Funcs[1].Handlers[h].To = 1
			}
		}
	}
	hold(t, full(), []try{
		{"all", one(0, 6, 0, 0), 0, 0, api.OK},
		{"the first", one(0, 1, 5, 63), 0, 0, api.OK},
		{"the last", one(5, 6, 5, 63), 0, 0, api.OK},
		{"the same twice", one(1, 2, 5, 1), 0, 0, api.OK},
		{"From below 0", one(-1, 6, 0, 0), 2, 1, api.ErrIndex},
		{"From at To", one(6, 6, 0, 0), 2, 1, api.ErrIndex},
		{"From above To", one(5, 4, 0, 0), 2, 1, api.ErrIndex},
		{"To behind the last", one(0, 7, 0, 0), 2, 1, api.ErrIndex},
		{"Target below 0", one(0, 6, -1, 0), 2, 1, api.ErrIndex},
		{"Target behind the last", one(0, 6, 6, 0), 2, 1, api.ErrIndex},
		{"Height below 0", one(0, 6, 0, -1), 2, 1, api.ErrIndex},
		{"Height 64", one(0, 6, 0, 64), 2, 1, api.ErrIndex},
		{"31", many(31), 0, 0, api.OK},
		{"32", many(32), 0, 0, api.OK},
		{"33", many(33), 1, 32, api.ErrMany},
		{"33, the first wrong", func(p *api.Program) { many(33)(p); p.Funcs[1].Handlers[0].To = 0 }, 1, 32, api.ErrMany},
		{"32, the last wrong", func(p *api.Program) { many(32)(p); p.Funcs[1].Handlers[31].To = 3 }, 1, 31, api.ErrIndex},
	})
}

// The fault of a place says what is wrong there, wrapped or not.
func TestFaults(t *testing.T) {
	inner := fault{7, api.ErrOp}
	err := error(within{3, inner})
	if err.Error() != api.ErrOp.Error() || inner.Error() != api.ErrOp.Error() {
		t.Error(err.Error(), inner.Error())
	}
	if at, why := tell(err); at != (api.Place{Fn: 3, PC: 7}) || why != api.ErrOp {
		t.Error(at, why)
	}
	if at, why := tell(nil); at != (api.Place{}) || why != api.OK {
		t.Error(at, why)
	}
}
