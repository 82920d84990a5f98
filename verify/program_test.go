package verify

import (
	"math/rand"
	"slices"
	"testing"

	"portage/api"
	"portage/program"
)

// refused holds Program to one error at one place.
func refused(t *testing.T, p api.Program, fn, pc int, want api.Errno) {
	t.Helper()
	f, at, err := Program(p)
	if err != want || at != (api.Place{Fn: fn, PC: pc}) || !noFacts(f) {
		t.Errorf("%v: %v %v %v, not %v at %d %d", p, f, at, err, want, fn, pc)
	}
}

// taken holds Program to the heights of the only function.
func taken(t *testing.T, p api.Program, heights ...int) {
	t.Helper()
	want := api.Facts{Heights: [][]int{heights}, Most: []int{slices.Max(heights)}}
	if f, at, err := Program(p); err != api.OK || at != (api.Place{}) || !sameFacts(f, want) {
		t.Errorf("%v: %v %v %v, not %v", p, f, at, err, want)
	}
}

var nilIns, retIns, popIns = ins(api.OpNil), ins(api.OpRet), ins(api.OpPop)

// P10.1: the chapter's examples.
func TestExamples(t *testing.T) {
	taken(t, alone(list(nilIns, retIns)), 0, 1)
	refused(t, alone(list(retIns)), 0, 0, api.ErrHeight)
	refused(t, alone(list(nilIns, popIns)), 0, 1, api.ErrReach)
	refused(t, alone(list(ins(api.OpJump, 2), ins(api.OpNop), nilIns, retIns)), 0, 1, api.ErrReach)
	taken(t, alone(list(ins(api.OpTrue), ins(api.OpJz, 4), nilIns, retIns, nilIns, retIns)), 0, 1, 0, 1, 0, 1)
	refused(t, alone(list(ins(api.OpTrue), ins(api.OpJz, 3), nilIns, nilIns, retIns)), 0, 3, api.ErrHeight)
	refused(t, alone(list(nilIns, ins(api.OpJump))), 0, 0, api.ErrHeight)
	refused(t, alone(list(popIns, ins(api.OpJump, 3), ins(api.OpNop))), 0, 1, api.ErrIndex)
	refused(t, alone(list(nilIns, retIns, nilIns), api.Handler{To: 1, Target: 2}), 0, 2, api.ErrReach)
	taken(t, alone(list(nilIns, retIns, retIns), api.Handler{To: 1, Target: 2}), 0, 1, 1)
	refused(t, alone(list(nilIns, retIns, retIns), api.Handler{From: 1, To: 2, Target: 2, Height: 1}), 0, 1, api.ErrHeight)
}

// filled is code that lays n values on the stack, and more behind.
func filled(n int, more ...api.Instr) []api.Instr {
	return append(slices.Repeat(list(nilIns), n), more...)
}

// upTo are the numbers from 0 to n - 1, and more behind.
func upTo(n int, more ...int) []int {
	var l []int
	for k := range n {
		l = append(l, k)
	}
	return append(l, more...)
}

// P10.1: the stack may be full, and not fuller; it may be empty, and not emptier.
func TestFullAndEmpty(t *testing.T) {
	full := api.MaxHeight
	taken(t, alone(filled(full, retIns)), upTo(full, full)...)
	taken(t, alone(filled(full, ins(api.OpSwap), retIns)), upTo(full, full, full)...)
	taken(t, alone(filled(full, ins(api.OpArray, 63), retIns)), upTo(full, full, 2)...)
	taken(t, alone(filled(full, ins(api.OpCall, 63), retIns)), upTo(full, full, 1)...)
	refused(t, alone(filled(full+1, retIns)), 0, full, api.ErrHeight)
	refused(t, alone(filled(full, ins(api.OpDup), retIns)), 0, full, api.ErrHeight)
	refused(t, alone(filled(full, ins(api.OpArray), retIns)), 0, full, api.ErrHeight)
	taken(t, alone(filled(full-1, ins(api.OpDup), retIns)), upTo(full-1, full-1, full)...)
	taken(t, alone(filled(3, ins(api.OpCut), retIns)), 0, 1, 2, 3, 1)
	refused(t, alone(filled(2, ins(api.OpCut), retIns)), 0, 2, api.ErrHeight)
	taken(t, alone(filled(3, ins(api.OpSpawn, 2), nilIns, retIns)), 0, 1, 2, 3, 0, 1)
	refused(t, alone(filled(3, ins(api.OpSpawn, 3), nilIns, retIns)), 0, 3, api.ErrHeight)
	refused(t, alone(list(ins(api.OpJz), nilIns, retIns)), 0, 0, api.ErrHeight)
	refused(t, alone(list(ins(api.OpDup), retIns)), 0, 0, api.ErrHeight)
}

// P10.1: what an instruction leaves behind that does not fit is not met through it.
func TestNothingBehindWhatDoesNotFit(t *testing.T) {
	refused(t, alone(list(ins(api.OpJump, 2), retIns, popIns, ins(api.OpJump, 1))), 0, 2, api.ErrHeight)
	refused(t, alone(append(list(ins(api.OpJump, 2), retIns), filled(api.MaxHeight+1, ins(api.OpJump, 1))...)), 0, api.MaxHeight+2, api.ErrHeight)
	refused(t, alone(list(popIns, ins(api.OpNop))), 0, 0, api.ErrHeight)
}

// P10.1: a handler's target is met whatever the height is at which the held instruction is met, fit or not.
func TestHandlersOfWhatDoesNotFit(t *testing.T) {
	// Instruction 1 is met at 1 by the handler alone and fits; 0 is the least that does not.
	refused(t, alone(list(popIns, retIns), api.Handler{To: 1, Target: 1}), 0, 0, api.ErrHeight)
	// Instruction 2 does not fit; its handler meets instruction 1 at 3, which was met at 0: 1 is less than 2.
	refused(t, alone(list(ins(api.OpJump, 1), ins(api.OpJump, 2), popIns, retIns), api.Handler{From: 2, To: 3, Target: 1, Height: 2}), 0, 1, api.ErrHeight)
	// A handler that holds nothing met leads nowhere.
	refused(t, alone(list(nilIns, retIns, nilIns, retIns), api.Handler{From: 2, To: 4, Target: 2}), 0, 2, api.ErrReach)
	// A handler may lead to what it holds itself, if the height is right there.
	taken(t, alone(list(nilIns, nilIns, ins(api.OpThrow), ins(api.OpThrow)), api.Handler{From: 2, To: 4, Target: 3, Height: 0}), 0, 1, 2, 1)
	taken(t, alone(list(nilIns, nilIns, ins(api.OpThrow), ins(api.OpThrow)), api.Handler{From: 2, To: 4, Target: 3, Height: 1}), 0, 1, 2, 2)
	refused(t, alone(list(nilIns, nilIns, ins(api.OpThrow), ins(api.OpThrow)), api.Handler{From: 3, To: 4, Target: 3, Height: 1}), 0, 3, api.ErrReach)
}

// P10.1: a handler keeps no more than is left when an instruction has taken its own.
func TestHandlersKeep(t *testing.T) {
	add := append(filled(3, ins(api.OpAdd)), retIns, retIns)
	for height, want := range []api.Errno{api.OK, api.OK, api.ErrHeight} {
		l := slices.Clone(add)
		l[5] = ins(api.OpJump, 5)
		if _, at, err := Program(alone(l, api.Handler{From: 3, To: 4, Target: 5, Height: height})); err != want || err != api.OK && at.PC != 3 {
			t.Error(height, at, err)
		}
	}
	// The deepest of several that hold an instruction tells, wherever it stands in the list.
	low, high := api.Handler{From: 3, To: 4, Target: 5}, api.Handler{From: 3, To: 4, Target: 4, Height: 2}
	refused(t, alone(add, low, high), 0, 3, api.ErrHeight)
	refused(t, alone(add, high, low), 0, 3, api.ErrHeight)
	// A full stack, and a handler that keeps as much as a handler may.
	taken(t, alone(filled(64, ins(api.OpNop), retIns, retIns), api.Handler{From: 64, To: 66, Target: 66, Height: 63}), upTo(64, 64, 64, 64)...)
	taken(t, alone(filled(64, popIns, retIns, retIns), api.Handler{From: 64, To: 65, Target: 66, Height: 63}), upTo(64, 64, 63, 64)...)
}

// P10.1: the least instruction is told, however late it is met; ErrHeight goes ahead of ErrReach, wherever it lies.
func TestLeastOfOneFunction(t *testing.T) {
	// The add does not fit at its first height; its other heights open the way to instruction 1.
	refused(t, alone(list(ins(api.OpJump, 2), ins(api.OpJump, 1), nilIns, ins(api.OpTrue), ins(api.OpJz, 2), ins(api.OpAdd), ins(api.OpJump, 1))), 0, 1, api.ErrHeight)
	refused(t, alone(list(nilIns, ins(api.OpJump, 2), ins(api.OpTrue), ins(api.OpJz, 0), retIns)), 0, 0, api.ErrHeight)
	// Instruction 1 is never met, 3 does not fit.
	refused(t, alone(list(ins(api.OpJump, 2), ins(api.OpNop), nilIns, ins(api.OpAdd), retIns)), 0, 3, api.ErrHeight)
	// Of two that are not met, and of the last one, the least.
	refused(t, alone(list(ins(api.OpJump, 2), ins(api.OpNop), ins(api.OpJump, 4), ins(api.OpNop), ins(api.OpNop))), 0, 1, api.ErrReach)
	refused(t, alone(list(ins(api.OpNop))), 0, 0, api.ErrReach)
	refused(t, alone(list(ins(api.OpTrue), ins(api.OpJnz))), 0, 1, api.ErrReach)
	refused(t, alone(list(nilIns, retIns, ins(api.OpJump, 2))), 0, 2, api.ErrReach)
}

// P10.1: the first wrong function tells, and program.Check goes ahead of all.
func TestFirstOfSeveralFunctions(t *testing.T) {
	named := func(name string, l ...api.Instr) api.Function { return api.Function{Name: name, Code: l} }
	p := api.Program{Funcs: []api.Function{named("main", nilIns, retIns), named("b", ins(api.OpNop)), named("c", popIns, retIns)}}
	refused(t, p, 1, 0, api.ErrReach)
	p.Funcs[1], p.Funcs[2] = p.Funcs[2], p.Funcs[1]
	refused(t, p, 1, 0, api.ErrHeight)
	p.Funcs = append(p.Funcs, named("d", nilIns, retIns, ins(api.OpLoad)))
	refused(t, p, 3, 2, api.ErrIndex)
	p.Consts = []api.Const{{Kind: api.Int}}
	refused(t, p, -1, 0, api.ErrForm)
	refused(t, api.Program{}, 0, 0, api.ErrShort)
	refused(t, alone(nil), 0, 0, api.ErrShort)
	refused(t, alone(list(ins(api.Ops))), 0, 0, api.ErrOp)
	refused(t, alone(list(nilIns, retIns), api.Handler{To: 1, Height: api.MaxHeight}), 0, 0, api.ErrIndex)
}

// asMeant holds Program to the model.
func asMeant(t *testing.T, p api.Program) api.Errno {
	t.Helper()
	want, place, wrong := meant(p)
	f, at, err := Program(p)
	if err != wrong || at != place || !sameFacts(f, want) {
		t.Fatalf("%v: %v %v %v, not %v %v %v", p, f, at, err, want, place, wrong)
	}
	return err
}

// words are instructions of which short functions are made.
func words(n int) []api.Instr {
	l := list(ins(api.OpNop), nilIns, popIns, ins(api.OpDup), retIns, ins(api.OpArray, 2))
	for k := range int64(n) {
		l = append(l, ins(api.OpJump, k), ins(api.OpJz, k))
	}
	return l
}

// rows calls back with all rows of n of some words.
func rows(n int, l []api.Instr, back func([]api.Instr)) {
	row := make([]api.Instr, n)
	var lay func(k int)
	lay = func(k int) {
		if k == n {
			back(row)
			return
		}
		for _, w := range l {
			row[k] = w
			lay(k + 1)
		}
	}
	lay(0)
}

// P10.1: all functions of up to three instructions, without a handler and with each handler that Check takes.
func TestAllShortFunctions(t *testing.T) {
	for n := 1; n <= 3; n++ {
		hs := [][]api.Handler{nil}
		for from := range n {
			for to := from + 1; to <= n; to++ {
				for target := range n {
					hs = append(hs, []api.Handler{{From: from, To: to, Target: target}}, []api.Handler{{From: from, To: to, Target: target, Height: 1}})
				}
			}
		}
		ok := 0
		rows(n, words(n), func(row []api.Instr) {
			for k, h := range hs {
				// Three instructions with a handler are many: every seventh is asked.
				if n == 3 && k > 0 && (k+int(row[0].A)+3*row[1].Op+5*row[2].Op)%7 != 0 {
					continue
				}
				if asMeant(t, alone(row, h...)) == api.OK {
					ok++
				}
			}
		})
		if ok == 0 {
			t.Error("none of", n, "is taken")
		}
	}
}

// P10.1: functions that fit, and what becomes of them when something is changed.
func TestSomePrograms(t *testing.T) {
	r := rand.New(rand.NewSource(101))
	seen := map[api.Errno]int{}
	for range 6000 {
		p, facts := someProgram(r, 24)
		if f, at, err := Program(p); err != api.OK || at != (api.Place{}) || !sameFacts(f, facts) {
			t.Fatalf("%v: %v %v %v, not %v", p, f, at, err, facts)
		}
		p = copied(p)
		for range 1 + r.Intn(3) {
			spoil(r, &p)
		}
		seen[asMeant(t, p)]++
	}
	for _, e := range []api.Errno{api.OK, api.ErrHeight, api.ErrReach, api.ErrIndex, api.ErrOp, api.ErrShort} {
		if seen[e] < 20 {
			t.Error("too few of", e, seen)
		}
	}
}

// R1: programs that are nothing of the kind.
func TestAnyProgram(t *testing.T) {
	r := rand.New(rand.NewSource(102))
	odd := []int{0, 1, 2, -1, 63, 64, 65, 2000, -1 << 63, 1<<63 - 1}
	num := func() int { return odd[r.Intn(len(odd))] }
	for range 20000 {
		p := api.Program{}
		for k := range r.Intn(3) {
			f := api.Function{Name: string(rune('a' + k)), Params: r.Intn(2), Locals: num()}
			for range r.Intn(5) {
				f.Code = append(f.Code, ins(r.Intn(api.Ops+2)-1, int64(num())))
			}
			for range r.Intn(2) {
				f.Handlers = append(f.Handlers, api.Handler{From: num(), To: num(), Target: num(), Height: num()})
			}
			p.Funcs = append(p.Funcs, f)
		}
		if at, err := program.Check(p); err != api.OK {
			refused(t, p, at.Fn, at.PC, err)
		} else {
			asMeant(t, p)
		}
	}
}
