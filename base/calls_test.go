package base

import (
	"slices"
	"testing"

	"portage/api"
)

// caller is a program whose function 0 calls function 1, which has two parameters and three locals, with one value or with two that lie upon a value of the stack.
func caller(n int64) api.Program {
	code := list(ins(api.OpTrue), ins(api.OpNil))
	for range n {
		code = append(code, ins(api.OpNil))
	}
	code = append(code, ins(api.OpCall, n), ins(api.OpRet))
	sub := list(ins(api.OpLoad, 0), ins(api.OpLoad, 1), ins(api.OpSub), ins(api.OpRet))
	return api.Program{Funcs: []api.Function{{Name: "main", Locals: 1, Code: code}, {Name: "sub", Params: 2, Locals: 3, Code: sub}}}
}

// P16.2, call: the frame waits at its place, what it takes is off its stack, and the new frame has what is bound, the values, and nils.
func TestCall(t *testing.T) {
	low, top := whole(70), whole(71)
	objects := []api.Object{{Kind: api.Bound, Fn: 1, Items: vals(whole(3))}, {Kind: api.Bound, Fn: 1}, {Kind: api.Bound, Fn: 1, Items: vals(whole(3), whole(4))}, {Kind: api.Array}}
	for _, c := range []struct {
		what api.Value
		args []api.Value
		want []api.Value
		trap int
	}{
		{val(api.Func, 1), vals(whole(1), whole(2)), vals(whole(1), whole(2), api.Value{}), 0},
		{val(api.Func, 1), vals(whole(1)), nil, api.TrapArity},
		{val(api.Func, 1), vals(whole(1), whole(2), whole(3)), nil, api.TrapArity},
		{val(api.Func, 0), nil, vals(api.Value{}), 0},
		{val(api.Func, 0), vals(whole(1)), nil, api.TrapArity},
		{val(api.Bound, 0), vals(whole(1)), vals(whole(3), whole(1), api.Value{}), 0},
		{val(api.Bound, 0), nil, nil, api.TrapArity},
		{val(api.Bound, 0), vals(whole(1), whole(2)), nil, api.TrapArity},
		{val(api.Bound, 1), vals(whole(1), whole(2)), vals(whole(1), whole(2), api.Value{}), 0},
		{val(api.Bound, 2), nil, vals(whole(3), whole(4), api.Value{}), 0},
		{val(api.Array, 3), nil, nil, api.TrapType},
		{whole(1), vals(whole(1), whole(2)), nil, api.TrapType},
		{api.Value{}, nil, nil, api.TrapType},
	} {
		p := caller(int64(len(c.args)))
		for _, depth := range []int{1, 2, 99, 100} {
			core := loaded(t, p, api.Limits{Fuel: 5}, nil, api.State{Objects: objects})
			var row []api.Frame
			for range depth - 1 {
				row = append(row, frame(0, 2+len(c.args), low, top))
			}
			pc := 2 + len(c.args)
			f := fiber(append(row, frame(0, pc, slices.Concat(vals(low, top, c.what), c.args)...))...)
			e := core.Step(f)
			trap := c.trap
			if trap == 0 && depth == 100 {
				trap = api.TrapDeep
			}
			if trap != 0 {
				if e.Kind != api.EvThrown || e.Trap != trap || len(f.Frames) != 0 {
					t.Errorf("call of %v with %v at %d frames: %v, not trap %d", c.what, c.args, depth, e, trap)
				}
				continue
			}
			want := api.Fiber{Frames: append(row, frame(0, pc, low, top), frame(wantFn(objects, c.what), 0, c.want...))}
			if e != (api.Event{}) || !sameFiber(*f, want) || core.Steps() != 1 {
				t.Errorf("call of %v with %v at %d frames: %v, %v", c.what, c.args, depth, e, *f)
			}
		}
	}
}

func wantFn(l []api.Object, v api.Value) int {
	if v.Kind == api.Func {
		return int(v.N)
	}
	return l[v.N].Fn
}

// P16.2, ret: the value is laid upon the stack of the frame that waits, which goes on behind its call; the only frame's return is the fiber's end.
func TestRet(t *testing.T) {
	p := caller(2)
	c := begun(t, p, 9, 0)
	f := fiber(frame(0, 4, whole(1), whole(2)), frame(0, 4, whole(3), whole(4)), frame(1, 3, whole(5), whole(6), whole(7), whole(8)))
	if e := c.Step(f); e != (api.Event{}) || !sameFiber(*f, *fiber(frame(0, 4, whole(1), whole(2)), frame(0, 5, whole(3), whole(4), whole(8)))) {
		t.Fatal("returned", e, *f)
	}
	if e := c.Step(f); e != (api.Event{}) || !sameFiber(*f, *fiber(frame(0, 5, whole(1), whole(2), whole(8)))) {
		t.Fatal("returned twice", e, *f)
	}
	if e := c.Step(f); e != (api.Event{Kind: api.EvEnded, Value: whole(8)}) || len(f.Frames) != 0 || c.Steps() != 3 {
		t.Fatal("ended", e, *f)
	}
	if e := c.Step(f); e != (api.Event{Kind: api.EvAsk}) || c.Steps() != 3 {
		t.Fatal("behind the end", e)
	}
}

// A jump to its own place, and a handler that leads to where it was thrown, stay where they are, step by step.
func TestStaysInPlace(t *testing.T) {
	c, f := begun(t, alone(0, list(ins(api.OpJump))), 3, 0), fiber(frame(0, 0))
	for range 3 {
		if e := c.Step(f); e != (api.Event{}) || !sameFiber(*f, *fiber(frame(0, 0))) {
			t.Fatal("jump", e, *f)
		}
	}
	if e := c.Step(f); e != (api.Event{Kind: api.EvFuel}) || c.Steps() != 3 {
		t.Error("jump", e, c.Steps())
	}
	again := alone(0, list(ins(api.OpNil), ins(api.OpThrow)), api.Handler{From: 1, To: 2, Target: 1})
	c, f = begun(t, again, 9, 0), fiber(frame(0, 1, whole(7)))
	for range 3 {
		if e := c.Step(f); e != (api.Event{}) || !sameFiber(*f, *fiber(frame(0, 1, whole(7)))) {
			t.Fatal("throw", e, *f)
		}
	}
	again = alone(0, list(ins(api.OpNil), ins(api.OpNeg), ins(api.OpRet)), api.Handler{From: 1, To: 2, Target: 1})
	c, f = begun(t, again, 9, 0), fiber(frame(0, 1, api.Value{}))
	for range 3 {
		if e := c.Step(f); e != (api.Event{Trap: api.TrapType}) || !sameFiber(*f, *fiber(frame(0, 1, txt(3)))) {
			t.Fatal("trap", e, *f)
		}
	}
	if !slices.Equal(c.World().Texts.Items(), []string{"x", "key", "", "type"}) {
		t.Error(c.World().Texts.Items())
	}
}

// P16.2: the order of the events: a fiber that has ended is EvAsk also without fuel, one at spawn, yield, send or recv then isn't.
func TestOrderOfEvents(t *testing.T) {
	p := alone(0, list(ins(api.OpChan, 1), ins(api.OpDup), ins(api.OpNil), ins(api.OpSend), ins(api.OpRecv), ins(api.OpSpawn), ins(api.OpYield), ins(api.OpArray), ins(api.OpRet)))
	ch := val(api.Chan, 0)
	for _, at := range []api.Frame{frame(0, 3, ch, ch, api.Value{}), frame(0, 4, ch), frame(0, 5, api.Value{}), frame(0, 6)} {
		for _, fuel := range []int{2, 3, 4, 5} {
			s := api.State{Steps: 3, Spent: 3, Objects: []api.Object{{Kind: api.Chan, Cap: 1}}}
			c := loaded(t, p, api.Limits{Fuel: fuel}, nil, s)
			m := newModel(p, api.Limits{Fuel: fuel}, nil, s)
			f := copiedFiber(*fiber(at))
			want := api.Event{Kind: api.EvAsk}
			if fuel <= 3 {
				want.Kind = api.EvFuel
			}
			if e := c.Step(&f); e != want || !sameFiber(f, *fiber(at)) {
				t.Errorf("at %d with fuel %d: %v, %v", at.PC, fuel, e, f)
			}
			m.held(t, c)
			if e := c.Step(&api.Fiber{}); e != (api.Event{Kind: api.EvAsk}) {
				t.Errorf("ended, with fuel %d: %v", fuel, e)
			}
			f = *fiber(frame(0, 7))
			want.Kind = api.EvHeap
			if fuel <= 3 {
				want.Kind = api.EvFuel
			}
			if e := c.Step(&f); e != want || !sameFiber(f, *fiber(frame(0, 7))) {
				t.Errorf("no room, with fuel %d: %v, %v", fuel, e, f)
			}
			m.held(t, c)
		}
	}
}

// P16.4: a value is thrown in the last frame, and taken by the first handler that holds it, frame by frame; no step is counted.
func TestThrow(t *testing.T) {
	p := caller(2)
	p.Funcs[0].Code = append(p.Funcs[0].Code, ins(api.OpPop), ins(api.OpRet))
	p.Funcs[0].Handlers = []api.Handler{{From: 4, To: 5, Target: 6, Height: 1}}
	p.Funcs[1].Handlers = []api.Handler{{From: 2, To: 3, Target: 3}}
	waits := frame(0, 4, whole(1), whole(2))
	for _, c := range []struct {
		before, behind []api.Frame
		is             bool
	}{
		{nil, nil, false},
		{[]api.Frame{frame(0, 0, whole(1))}, nil, false},
		{[]api.Frame{waits, frame(1, 2, whole(3), whole(4), whole(5), whole(6), whole(7))}, []api.Frame{waits, frame(1, 3, whole(3), whole(4), whole(5), whole(99))}, true},
		{[]api.Frame{waits, frame(1, 1, whole(3), whole(4), whole(5), whole(6))}, []api.Frame{frame(0, 6, whole(1), whole(2), whole(99))}, true},
		{[]api.Frame{waits, waits, frame(1, 3, whole(3), whole(4), whole(5), whole(6))}, []api.Frame{waits, frame(0, 6, whole(1), whole(2), whole(99))}, true},
		{[]api.Frame{waits, waits, frame(0, 0, whole(3))}, []api.Frame{waits, frame(0, 6, whole(1), whole(2), whole(99))}, true},
	} {
		for _, fuel := range []int{0, 5} {
			core := begun(t, p, fuel, 0)
			f := copiedFiber(api.Fiber{Frames: c.before})
			if is := core.Throw(&f, whole(99)); is != c.is || !slices.EqualFunc(f.Frames, c.behind, sameFrame) || core.Steps() != 0 || core.Left() != fuel {
				t.Errorf("thrown in %v: %v, %v; %d steps", c.before, is, f.Frames, core.Steps())
			}
		}
	}
}
