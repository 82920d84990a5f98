package base

import (
	"fmt"
	"math/rand"
	"slices"
	"testing"

	"portage/api"
	"portage/code"
)

// The chapter's examples.
func TestExamples(t *testing.T) {
	p := api.Program{Consts: []api.Const{{Kind: api.Text, Text: "x"}}, Funcs: []api.Function{{Name: "main", Code: list(ins(api.OpArray), ins(api.OpInt), ins(api.OpGet), ins(api.OpRet))}}}
	array, index := val(api.Array, 0), txt(1)
	type row struct {
		event        api.Event
		behind       api.Fiber
		steps, spent int
	}
	first := row{api.Event{}, *fiber(frame(0, 1, array)), 1, 2}
	second := row{api.Event{}, *fiber(frame(0, 2, array, whole(0))), 2, 2}
	thrown := api.Event{Kind: api.EvThrown, Trap: api.TrapIndex, Value: index}
	handled := p
	handled.Funcs = []api.Function{p.Funcs[0]}
	handled.Funcs[0].Handlers = []api.Handler{{From: 0, To: 3, Target: 3, Height: 0}}
	for k, c := range []struct {
		p            api.Program
		fuel, budget int
		rows         []row
	}{
		{p, 10, 10, []row{first, second, {thrown, api.Fiber{}, 3, 2}, {api.Event{Kind: api.EvAsk}, api.Fiber{}, 3, 2}}},
		{p, 2, 10, []row{first, second, {api.Event{Kind: api.EvFuel}, second.behind, 2, 2}, {api.Event{Kind: api.EvFuel}, second.behind, 2, 2}}},
		{p, 10, 1, []row{{api.Event{Kind: api.EvHeap}, *fiber(frame(0, 0)), 0, 0}}},
		{p, 3, 10, []row{first, second, {thrown, api.Fiber{}, 3, 2}, {api.Event{Kind: api.EvAsk}, api.Fiber{}, 3, 2}}},
		{handled, 10, 10, []row{first, second, {api.Event{Trap: api.TrapIndex}, *fiber(frame(0, 3, index)), 3, 2}, {api.Event{Kind: api.EvEnded, Value: index}, api.Fiber{}, 4, 2}}},
	} {
		core, f := begun(t, c.p, c.fuel, c.budget), fiber(frame(0, 0))
		for i, want := range c.rows {
			if e := core.Step(f); e != want.event || !sameFiber(*f, want.behind) || core.Steps() != want.steps || core.World().Heap.Spent() != want.spent {
				t.Errorf("example %d, step %d: %v, %v, %d steps, %d spent", k, i, e, *f, core.Steps(), core.World().Heap.Spent())
			}
		}
		if k != 0 {
			continue
		}
		if got := core.World().Texts.Items(); !slices.Equal(got, []string{"x", "index"}) {
			t.Errorf("texts %q", got)
		}
	}
}

// every are all instructions, with operands that are right in the programs of around.
func every() (l []api.Instr) {
	for op := range api.Ops {
		switch kind, _ := code.Operand(op); kind {
		case code.Number:
			l = append(l, ins(op, -1<<63), ins(op, -1), ins(op, 0), ins(op, 1<<63-1))
		case code.Place:
			l = append(l, ins(op, 0))
		case code.Local:
			l = append(l, ins(op, 0), ins(op, 1), ins(op, 2))
		case code.Consts:
			for a, c := range consts() {
				if op == api.OpConst || c.Kind == api.Text {
					l = append(l, ins(op, int64(a)))
				}
			}
		case code.Funcs:
			l = append(l, ins(op, 0), ins(op, 1), ins(op, 2))
		case code.Count:
			l = append(l, ins(op, 0), ins(op, 1), ins(op, 2), ins(op, 3), ins(op, 9))
		case code.Width:
			l = append(l, ins(op, 8), ins(op, 16), ins(op, 32))
		case code.Room:
			l = append(l, ins(op, 1), ins(op, 5), ins(op, 64))
		default:
			l = append(l, ins(op))
		}
	}
	return l
}

// around is a program in which the instruction stands, with more values on the stack than it takes, and where; there are functions with two parameters and with one. A handler holds it, or none; jumps lead to where a value more is popped.
func around(i api.Instr, more int, handled bool) (api.Program, int) {
	var l []api.Instr
	takes, puts, _ := code.Effect(i)
	for range takes + more {
		l = append(l, ins(api.OpNil))
	}
	at := len(l)
	l = append(l, i)
	if !code.Ends(i.Op) {
		for range puts {
			l = append(l, ins(api.OpPop))
		}
	}
	if code.Jumps(i.Op) {
		l = append(l, ins(api.OpNop))
		l[at].A = int64(len(l))
		if i.Op == api.OpJump {
			l[at].A = int64(at + 1)
		}
	}
	if !code.Ends(i.Op) || i.Op == api.OpJump {
		l = append(l, ins(api.OpNil), ins(api.OpRet))
	}
	f := api.Function{Name: "f", Params: 2, Locals: 3, Code: l}
	if handled {
		f.Handlers = []api.Handler{{From: at, To: at + 1, Target: len(l), Height: more}, {From: 0, To: at + 1, Target: len(l) + 2, Height: 0}}
		f.Code = append(f.Code, ins(api.OpRet), ins(api.OpRet), ins(api.OpThrow))
		if more > 0 { // what is kept beneath it is there
			f.Code[len(l)] = ins(api.OpPop)
		} else {
			f.Code[len(l)] = ins(api.OpNop)
		}
	}
	call := list(ins(api.OpFunc, 1), ins(api.OpNil), ins(api.OpNil), ins(api.OpCall, 2), ins(api.OpRet), ins(api.OpRet))
	main := api.Function{Name: "main", Locals: 1, Code: call, Handlers: []api.Handler{{From: 3, To: 4, Target: 5, Height: 0}}}
	g := api.Function{Name: "g", Params: 1, Locals: 4, Code: list(ins(api.OpLoad, 0), ins(api.OpRet))}
	return api.Program{Consts: consts(), Funcs: []api.Function{main, f, g}}, at
}

// P16.2, and the chapter's table: every instruction, of values of all kinds, with and without a handler, with another frame beneath it and without, up to as many as there may be; where steps are left and where none is; where there is room for anything, and where it is short.
func TestEveryInstruction(t *testing.T) {
	for _, i := range every() {
		t.Run(fmt.Sprint(i), func(t *testing.T) {
			t.Parallel()
			for seed := range int64(60) {
				r := rand.New(rand.NewSource(seed))
				more := r.Intn(3)
				p, at := around(i, more, seed%2 == 0)
				f := factsOf(t, p)
				for range 8 {
					s := drawnState(r, p, f)
					l := api.Limits{Fuel: max(0, s.Steps-1+r.Intn(4)), Budget: s.Spent + r.Intn(9)}
					if r.Intn(2) == 0 {
						l = api.Limits{Fuel: 99, Budget: 9999}
					}
					input := drawnInput(r)
					c, m := loaded(t, p, l, input, s), newModel(p, l, input, s)
					w := worldly(r, c)
					var row []api.Frame
					for range []int{0, 1, 2, 99}[r.Intn(4)] {
						row = append(row, frame(0, 3, w.value()))
					}
					one := fiber(append(row, w.at(1, at))...)
					for range 3 {
						m.stepped(t, c, one)
					}
				}
			}
		})
	}
}

// P16.2: long runs of programs, of several fibers over one core, one step of one and then of another.
func TestRuns(t *testing.T) {
	for seed := range int64(400) {
		r := rand.New(rand.NewSource(seed))
		p := drawnProgram(r, 25)
		f := factsOf(t, p)
		s := drawnState(r, p, f)
		l := api.Limits{Fuel: r.Intn(400), Budget: r.Intn(600)}
		input := drawnInput(r)
		c, m := loaded(t, p, l, input, s), newModel(p, l, input, s)
		var some [3]*api.Fiber
		for k := range some {
			some[k] = &api.Fiber{}
		}
		for range 400 {
			k := r.Intn(len(some))
			if e := m.stepped(t, c, some[k]); e.Kind == api.EvAsk {
				some[k] = fiber(worldly(r, c).frames()...)
			}
		}
	}
}

// Runs come to events of all kinds, and to every trap of this layer: else the tests above would say little.
func TestRunsSeeAll(t *testing.T) {
	kinds, traps := map[int]int{}, map[int]int{}
	for seed := range int64(400) {
		r := rand.New(rand.NewSource(seed))
		p := drawnProgram(r, 25)
		c := loaded(t, p, api.Limits{Fuel: 300, Budget: 200}, drawnInput(r), drawnState(r, p, factsOf(t, p)))
		f := &api.Fiber{}
		for range 300 {
			e := c.Step(f)
			kinds[e.Kind]++
			traps[e.Trap]++
			if e.Kind == api.EvAsk {
				f = fiber(worldly(r, c).frames()...)
			}
		}
	}
	for kind := api.EvStep; kind <= api.EvAsk; kind++ {
		if kinds[kind] == 0 {
			t.Error("no event of kind", kind, kinds)
		}
	}
	for trap := range api.TrapForm {
		if traps[trap] == 0 {
			t.Error("no trap", trap, traps)
		}
	}
}
