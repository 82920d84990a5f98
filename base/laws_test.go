package base

import (
	"math/rand"
	"slices"
	"testing"

	"portage/api"
	"portage/code"
	"portage/ops"
	"portage/states"
)

// sameState holds two states without fibers against each other.
func sameState(a, b api.State) bool {
	return a.Steps == b.Steps && a.Spent == b.Spent && a.Read == b.Read && slices.Equal(a.Texts, b.Texts) && slices.EqualFunc(a.Objects, b.Objects, sameObject)
}

// P16.8: of what Do does, a step does to the world, to what was read and printed, just what Do does.
func TestStepIsDo(t *testing.T) {
	seen := map[int]int{}
	for seed := range int64(3000) {
		r := rand.New(rand.NewSource(seed))
		p := drawnProgram(r, 20)
		s := drawnState(r, p, factsOf(t, p))
		l := api.Limits{Fuel: s.Steps + 1, Budget: s.Spent + r.Intn(12)}
		input := drawnInput(r)
		a, b := loaded(t, p, l, input, s), loaded(t, p, l, input, s)
		f := fiber(worldly(r, a).frames()...)
		top := f.Frames[len(f.Frames)-1]
		i := p.Funcs[top.Fn].Code[top.PC]
		if i.Op != api.OpPrint && i.Op != api.OpRead && !ops.Applies(i.Op) {
			continue
		}
		seen[i.Op]++
		takes, puts, _ := code.Effect(i)
		v, trap, room := b.Do(i, top.Slots[len(top.Slots)-takes:])
		want := slices.Concat(top.Slots[:len(top.Slots)-takes], vals(v)[:puts])
		depth := len(f.Frames)
		e := a.Step(f)
		if (e.Kind == api.EvHeap) != !room || e.Trap != trap {
			t.Fatalf("%v: %v; Do: trap %d, %v", i, e, trap, room)
		}
		if trap != 0 {
			b.TrapText(trap)
		}
		if room {
			b.Pay(1)
		}
		if !sameState(stateOf(a), stateOf(b)) || !slices.Equal(a.Out(), b.Out()) {
			t.Fatalf("%v: %+v, %q; Do: %+v, %q", i, stateOf(a), a.Out(), stateOf(b), b.Out())
		}
		if room && trap == 0 && (e != api.Event{} || len(f.Frames) != depth || !sameFrame(f.Frames[depth-1], frame(top.Fn, top.PC+1, want...))) {
			t.Fatalf("%v: %v, %v", i, e, *f)
		}
	}
	if len(seen) < 40 {
		t.Error("only", len(seen), "operations were asked")
	}
}

// P16.9: with more fuel and more room all is the same, step by step, up to the first step for which there is not enough.
func TestMoreOfBoth(t *testing.T) {
	short := map[int]int{}
	for seed := range int64(600) {
		r := rand.New(rand.NewSource(seed))
		p := drawnProgram(r, 25)
		s := drawnState(r, p, factsOf(t, p))
		less := api.Limits{Fuel: r.Intn(80), Budget: r.Intn(80)}
		more := api.Limits{Fuel: less.Fuel + r.Intn(3)*r.Intn(50), Budget: less.Budget + r.Intn(3)*r.Intn(50)}
		input := drawnInput(r)
		a, b := loaded(t, p, less, input, s), loaded(t, p, more, input, s)
		var f, g api.Fiber
		for range 200 {
			if len(f.Frames) == 0 {
				f = *fiber(worldly(r, a).frames()...)
				g = copiedFiber(f)
			}
			was := copiedFiber(f)
			e := a.Step(&f)
			if e.Kind == api.EvFuel || e.Kind == api.EvHeap {
				short[e.Kind]++
				if !sameFiber(f, was) {
					t.Fatal("a step that was not made has changed", was, "to", f)
				}
				break
			}
			if other := b.Step(&g); e != other || !sameFiber(f, g) {
				t.Fatalf("%v and %v, with more %v and %v", e, f, other, g)
			}
			if !sameState(stateOf(a), stateOf(b)) || !slices.Equal(a.Out(), b.Out()) {
				t.Fatal("unlike worlds", stateOf(a), stateOf(b))
			}
			if e.Kind == api.EvAsk {
				f.Frames = nil
			}
		}
		if !sameState(stateOf(a), stateOf(b)) || !slices.Equal(a.Out(), b.Out()) {
			t.Fatal("unlike worlds", stateOf(a), stateOf(b))
		}
	}
	if short[api.EvFuel] < 20 || short[api.EvHeap] < 20 {
		t.Error("not enough", short)
	}
}

// isRight tells whether fibers are right for a core: states.Check asks it, of a state in which main has just begun and they are there besides.
func isRight(c *Core, l ...*api.Fiber) bool {
	p := c.World().Program
	s := stateOf(c)
	s.Fibers = []api.Fiber{*fiber(frame(0, 0, make([]api.Value, p.Funcs[0].Locals)...))}
	for _, f := range l {
		s.Fibers = append(s.Fibers, *f)
	}
	return states.Check(p, c.Facts(), s) == api.OK
}

// P16.10: behind Step and Throw all fibers are right that were.
func TestFibersStayRight(t *testing.T) {
	for seed := range int64(300) {
		r := rand.New(rand.NewSource(seed))
		p := drawnProgram(r, 25)
		s := drawnState(r, p, factsOf(t, p))
		c := loaded(t, p, api.Limits{Fuel: 999, Budget: r.Intn(900)}, drawnInput(r), s)
		var some []*api.Fiber
		for range 3 {
			some = append(some, fiber(worldly(r, c).frames()...))
		}
		if !isRight(c, some...) {
			t.Fatal("not right at the beginning")
		}
		for range 200 {
			f := some[r.Intn(len(some))]
			was := copiedFiber(*f)
			thrown := r.Intn(20) == 0
			switch v := worldly(r, c).value(); {
			case thrown && c.Throw(f, v):
			case !thrown && c.Step(f).Kind != api.EvAsk:
			default:
				*f = *fiber(worldly(r, c).frames()...)
			}
			if !isRight(c, some...) {
				t.Fatalf("%v became %v", was, *f)
			}
		}
	}
}

// R5: cores know nothing of one another, and a core answers the same when it is asked the same.
func TestCoresAreAlone(t *testing.T) {
	for seed := range int64(100) {
		r := rand.New(rand.NewSource(seed))
		p := drawnProgram(r, 25)
		s := drawnState(r, p, factsOf(t, p))
		l, input := api.Limits{Fuel: 200, Budget: 200}, drawnInput(r)
		a, b := loaded(t, p, l, input, s), loaded(t, p, l, input, s)
		var events []api.Event
		var behind []api.Fiber
		row := worldly(r, a).frames()
		f, g := copiedFiber(*fiber(row...)), copiedFiber(*fiber(row...))
		for range 100 {
			events = append(events, a.Step(&f))
			behind = append(behind, copiedFiber(f))
		}
		for k := range events {
			if e := b.Step(&g); e != events[k] || !sameFiber(g, behind[k]) {
				t.Fatal("step", k, e, "not", events[k])
			}
		}
		if !sameState(stateOf(a), stateOf(b)) {
			t.Fatal("unlike worlds")
		}
	}
}
