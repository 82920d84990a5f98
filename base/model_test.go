package base

import (
	"slices"
	"testing"

	"portage/api"
	"portage/code"
	"portage/heap"
	"portage/intern"
	"portage/ops"
)

// model is a core by the chapter's words, slowly: a state, on copies of whose parts all is done; they take its place only where the step is made.
type model struct {
	p     api.Program
	l     api.Limits
	input []string
	s     api.State
	out   []string
}

// newModel is the model of a core over a state that is right.
func newModel(p api.Program, l api.Limits, input []string, s api.State) *model {
	m := &model{p: p, l: l, input: slices.Clone(input), s: s}
	m.s.Texts, m.s.Objects = slices.Clone(s.Texts), copiedObjects(s.Objects)
	for _, c := range p.Consts {
		if c.Kind == api.Text {
			m.text(c.Text)
		}
	}
	return m
}

// text is a text's value; a new one is laid behind the others.
func (m *model) text(s string) api.Value {
	n := slices.Index(m.s.Texts, s)
	if n < 0 {
		n = len(m.s.Texts)
		m.s.Texts = append(m.s.Texts, s)
	}
	return txt(int64(n))
}

// world is a world that holds what the model does.
func (m *model) world() *ops.World {
	h, _ := heap.Load(m.l.Budget, m.s.Spent, m.s.Objects)
	x, _ := intern.From(m.s.Texts...)
	return &ops.World{Program: m.p, Heap: h, Texts: x}
}

// do is Do, in a world that is made for this one call.
func (m *model) do(i api.Instr, args []api.Value) (api.Value, int, bool) {
	if i.A == 0 && i.Op == api.OpPrint && len(args) == 1 {
		text := ops.Text(m.world(), args[0])
		if m.s.Spent+1+len(text) > m.l.Budget {
			return api.Value{}, 0, false
		}
		m.s.Spent += 1 + len(text)
		m.out = append(m.out, text)
		return api.Value{}, 0, true
	}
	if i.A == 0 && i.Op == api.OpRead && len(args) == 0 {
		if m.s.Read >= len(m.input) {
			return api.Value{}, 0, true
		}
		text := m.input[m.s.Read]
		if m.s.Spent+1+len(text) > m.l.Budget {
			return api.Value{}, 0, false
		}
		m.s.Spent += 1 + len(text)
		m.s.Read++
		return m.text(text), 0, true
	}
	w := m.world()
	v, trap, room := ops.Apply(w, i, args)
	m.s.Texts, m.s.Spent = w.Texts.Items(), w.Heap.Spent()
	m.s.Objects = nil
	for k := range w.Heap.Len() {
		o, _ := w.Heap.Object(k)
		m.s.Objects = append(m.s.Objects, o)
	}
	return v, trap, room
}

// throw is Throw, by the document's words.
func (m *model) throw(f *api.Fiber, v api.Value) bool {
	for len(f.Frames) > 0 {
		last := f.Frames[len(f.Frames)-1]
		fn := m.p.Funcs[last.Fn]
		for _, h := range fn.Handlers {
			if h.From <= last.PC && last.PC < h.To {
				l := copiedFiber(*f).Frames
				l[len(l)-1].Slots = append(l[len(l)-1].Slots[:fn.Locals+h.Height], v)
				l[len(l)-1].PC = h.Target
				f.Frames = l
				return true
			}
		}
		f.Frames = f.Frames[:len(f.Frames)-1]
	}
	f.Frames = nil
	return false
}

// step is Step.
func (m *model) step(f *api.Fiber) api.Event {
	if len(f.Frames) == 0 {
		return api.Event{Kind: api.EvAsk}
	}
	if m.s.Steps >= m.l.Fuel {
		return api.Event{Kind: api.EvFuel}
	}
	g := copiedFiber(*f)
	last := &g.Frames[len(g.Frames)-1]
	i := m.p.Funcs[last.Fn].Code[last.PC]
	locals, stack := slices.Clone(last.Slots[:m.p.Funcs[last.Fn].Locals]), slices.Clone(last.Slots[m.p.Funcs[last.Fn].Locals:])
	takes, puts, _ := code.Effect(i)
	args := slices.Clone(stack[len(stack)-takes:])
	e := api.Event{}
	next := last.PC + 1
	switch i.Op {
	case api.OpSpawn, api.OpYield, api.OpSend, api.OpRecv:
		return api.Event{Kind: api.EvAsk}
	case api.OpCall:
		e.Trap = m.enter(&g, args)
	case api.OpRet:
		e = m.giveBack(&g, args[0])
	case api.OpThrow:
		if !m.throw(&g, args[0]) {
			e = api.Event{Kind: api.EvThrown, Value: args[0]}
		}
	default:
		gives, room := m.plain(i, args, locals, &next, &e.Trap)
		if !room {
			return api.Event{Kind: api.EvHeap}
		}
		if e.Trap == 0 && len(gives) != puts {
			panic("an operation gives another number of values")
		}
		last.Slots = slices.Concat(locals, stack[:len(stack)-takes], gives)
		last.PC = next
	}
	if e.Trap != 0 {
		g = copiedFiber(*f)
		if v := m.text(ops.TrapName(e.Trap)); !m.throw(&g, v) {
			e.Kind, e.Value = api.EvThrown, v
		}
	}
	*f = g
	m.s.Steps++
	return e
}

// plain is what an instruction gives that leaves the frames as they are; false: no room.
func (m *model) plain(i api.Instr, args, locals []api.Value, next, trap *int) ([]api.Value, bool) {
	switch i.Op {
	case api.OpNop, api.OpPop:
		return nil, true
	case api.OpNil:
		return vals(api.Value{}), true
	case api.OpTrue:
		return vals(val(api.Bool, 1)), true
	case api.OpFalse:
		return vals(val(api.Bool, 0)), true
	case api.OpInt:
		return vals(whole(i.A)), true
	case api.OpConst:
		return vals(m.consts()[i.A]), true
	case api.OpFunc:
		return vals(val(api.Func, i.A)), true
	case api.OpDup:
		return vals(args[0], args[0]), true
	case api.OpSwap:
		return vals(args[1], args[0]), true
	case api.OpLoad:
		return vals(locals[i.A]), true
	case api.OpStore:
		locals[i.A] = args[0]
		return nil, true
	case api.OpJump:
		*next = int(i.A)
		return nil, true
	case api.OpJz, api.OpJnz:
		isFalse := args[0] == api.Value{} || args[0] == val(api.Bool, 0)
		if isFalse == (i.Op == api.OpJz) {
			*next = int(i.A)
		}
		return nil, true
	}
	v, t, room := m.do(i, args)
	*trap = t
	if _, puts, _ := code.Effect(i); puts == 0 {
		return nil, room
	}
	return vals(v), room
}

// consts are the values of the constants, by the texts that are there.
func (m *model) consts() []api.Value {
	var l []api.Value
	for _, c := range m.p.Consts {
		if c.Kind == api.Real {
			l = append(l, val(api.Real, c.N))
		} else {
			l = append(l, txt(int64(slices.Index(m.s.Texts, c.Text))))
		}
	}
	return l
}

// enter is a call, of the function and its arguments; a trap: nothing is changed.
func (m *model) enter(f *api.Fiber, l []api.Value) int {
	fn, args := 0, l[1:]
	switch l[0].Kind {
	case api.Func:
		fn = int(l[0].N)
	case api.Bound:
		o := m.s.Objects[l[0].N]
		fn, args = o.Fn, slices.Concat(o.Items, args)
	default:
		return api.TrapType
	}
	switch {
	case len(args) != m.p.Funcs[fn].Params:
		return api.TrapArity
	case len(f.Frames) == 100:
		return api.TrapDeep
	}
	last := &f.Frames[len(f.Frames)-1]
	last.Slots = last.Slots[:len(last.Slots)-len(l)]
	slots := slices.Concat(args, make([]api.Value, m.p.Funcs[fn].Locals-len(args)))
	f.Frames = append(f.Frames, frame(fn, 0, slots...))
	return 0
}

// giveBack is ret.
func (m *model) giveBack(f *api.Fiber, v api.Value) api.Event {
	f.Frames = f.Frames[:len(f.Frames)-1]
	if len(f.Frames) == 0 {
		return api.Event{Kind: api.EvEnded, Value: v}
	}
	last := &f.Frames[len(f.Frames)-1]
	last.Slots = append(last.Slots, v)
	last.PC++
	return api.Event{}
}

// held holds all that a core answers against the model.
func (m *model) held(t testing.TB, c *Core) {
	t.Helper()
	s := stateOf(c)
	switch {
	case s.Steps != m.s.Steps, s.Read != m.s.Read, s.Spent != m.s.Spent:
		t.Fatalf("steps %d, read %d, spent %d; not %d, %d, %d", s.Steps, s.Read, s.Spent, m.s.Steps, m.s.Read, m.s.Spent)
	case c.Left() != max(0, m.l.Fuel-m.s.Steps):
		t.Fatalf("left %d of %d behind %d", c.Left(), m.l.Fuel, m.s.Steps)
	case !slices.Equal(s.Texts, m.s.Texts):
		t.Fatalf("texts %q, not %q", s.Texts, m.s.Texts)
	case !slices.EqualFunc(s.Objects, m.s.Objects, sameObject):
		t.Fatalf("objects %v, not %v", s.Objects, m.s.Objects)
	case !slices.Equal(c.Out(), m.out):
		t.Fatalf("printed %q, not %q", c.Out(), m.out)
	case !slices.Equal(c.Consts(), m.consts()):
		t.Fatalf("constants %v, not %v", c.Consts(), m.consts())
	}
}

// stepped makes a step of the core and of the model, and holds them against each other.
func (m *model) stepped(t testing.TB, c *Core, f *api.Fiber) api.Event {
	t.Helper()
	was := copiedFiber(*f)
	g := copiedFiber(*f)
	want, e := m.step(&g), c.Step(f)
	if e != want || !sameFiber(*f, g) {
		t.Fatalf("of %v: %v and %v, not %v and %v", was, e, *f, want, g)
	}
	m.held(t, c)
	return e
}
