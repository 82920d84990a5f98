package machine

import (
	"slices"
	"testing"

	"portage/api"
	"portage/base"
	"portage/ops"
	"portage/states"
)

// model is a machine by the document's words, slowly: a state; for each step that is one fiber's alone a core is made out of it.
type model struct {
	p     api.Program
	l     api.Limits
	input []string
	s     api.State // with all texts and objects that were ever there
	out   []string
	end   api.End
}

// loadedModel is the model of a machine in a state that is right.
func loadedModel(p api.Program, l api.Limits, input []string, s api.State) *model {
	d := &model{p: p, l: l, input: slices.Clone(input), s: copyOf(s)}
	for _, c := range p.Consts {
		if c.Kind == api.Text {
			d.text(c.Text)
		}
	}
	return d
}

// freshModel is the model of a machine at the beginning of a program.
func freshModel(p api.Program, l api.Limits, input []string) *model {
	main := frame(0, 0, make([]api.Value, p.Funcs[0].Locals)...)
	return loadedModel(p, l, input, api.State{Fibers: []api.Fiber{fiber(main)}})
}

// text is a text's value; a new one is laid behind the others.
func (d *model) text(s string) api.Value {
	n := slices.Index(d.s.Texts, s)
	if n < 0 {
		n = len(d.s.Texts)
		d.s.Texts = append(d.s.Texts, s)
	}
	return txt(int64(n))
}

// core is a core over the state as it is.
func (d *model) core() *base.Core {
	c, err := base.New(d.p, d.l, d.input, d.s)
	if err != api.OK {
		panic("no core: " + err.Error())
	}
	return c
}

// step is Step.
func (d *model) step() bool {
	if d.end.Kind != api.EndNone {
		return false
	}
	if d.s.Steps >= d.l.Fuel {
		d.end.Kind = api.EndFuel
		return false
	}
	l := d.s.Fibers[d.s.Current].Frames
	top := l[len(l)-1]
	i := d.p.Funcs[top.Fn].Code[top.PC]
	e := api.Event{}
	switch i.Op {
	case api.OpSpawn, api.OpYield, api.OpSend, api.OpRecv:
		e = d.among(i)
	default:
		e = d.alone()
	}
	if e.Kind == api.EvHeap {
		d.end.Kind = api.EndHeap
		return false
	}
	switch {
	case e.Kind == api.EvEnded && d.s.Current == 0:
		d.end = api.End{Kind: api.EndDone, Text: ops.Text(d.core().World(), e.Value)}
	case e.Kind == api.EvThrown:
		d.end = api.End{Kind: api.EndThrown, Text: ops.Text(d.core().World(), e.Value)}
	default:
		d.settle(i.Op == api.OpYield)
	}
	return true
}

// alone is a step of one fiber, which base makes.
func (d *model) alone() api.Event {
	c := d.core()
	e := c.Step(&d.s.Fibers[d.s.Current])
	d.s.Texts, d.s.Spent, d.s.Read, d.s.Steps = c.World().Texts.Items(), c.World().Heap.Spent(), c.Read(), c.Steps()
	d.s.Objects = nil
	for k := range c.World().Heap.Len() {
		o, _ := c.World().Heap.Object(k)
		d.s.Objects = append(d.s.Objects, o)
	}
	d.out = append(d.out, c.Out()...)
	return e
}

// among is a step of those that have to do with other fibers, by the chapter's table.
func (d *model) among(i api.Instr) api.Event {
	l := d.s.Fibers[d.s.Current].Frames
	top := &l[len(l)-1]
	takes := map[int]int{api.OpSpawn: int(i.A) + 1, api.OpYield: 0, api.OpSend: 2, api.OpRecv: 1}[i.Op]
	args := top.Slots[len(top.Slots)-takes:]
	gives, trap, room := []api.Value(nil), 0, true
	switch i.Op {
	case api.OpSpawn:
		trap, room = d.spawn(args)
	case api.OpSend:
		trap = d.send(args[0], args[1])
	case api.OpRecv:
		gives, trap = d.recv(args[0])
	}
	if !room {
		return api.Event{Kind: api.EvHeap}
	}
	d.s.Steps++
	if trap != 0 {
		return d.throw(d.text(ops.TrapName(trap)))
	}
	top.Slots = slices.Concat(top.Slots[:len(top.Slots)-takes], gives)
	top.PC++
	return api.Event{}
}

func (d *model) spawn(l []api.Value) (trap int, room bool) {
	fn, args := 0, l[1:]
	switch l[0].Kind {
	case api.Func:
		fn = int(l[0].N)
	case api.Bound:
		o := d.s.Objects[l[0].N]
		fn, args = o.Fn, slices.Concat(o.Items, args)
	default:
		return api.TrapType, true
	}
	switch {
	case len(args) != d.p.Funcs[fn].Params:
		return api.TrapArity, true
	case len(d.s.Fibers) == 32:
		return api.TrapFibers, true
	case d.s.Spent+8 > d.l.Budget:
		return 0, false
	}
	d.s.Spent += 8
	slots := slices.Concat(args, make([]api.Value, d.p.Funcs[fn].Locals-len(args)))
	d.s.Fibers = append(d.s.Fibers, fiber(frame(fn, 0, slots...)))
	return 0, true
}

func (d *model) send(c, x api.Value) int {
	if c.Kind != api.Chan {
		return api.TrapType
	}
	o := &d.s.Objects[c.N]
	if o.Shut {
		return api.TrapClosed
	}
	if len(o.Items) >= o.Cap {
		panic("a fiber that is blocked sends")
	}
	o.Items = append(slices.Clone(o.Items), x)
	return 0
}

func (d *model) recv(c api.Value) ([]api.Value, int) {
	if c.Kind != api.Chan {
		return nil, api.TrapType
	}
	o := &d.s.Objects[c.N]
	if len(o.Items) == 0 {
		if !o.Shut {
			panic("a fiber that is blocked receives")
		}
		return vals(api.Value{}), 0
	}
	x := o.Items[0]
	o.Items = slices.Clone(o.Items[1:])
	return vals(x), 0
}

// throw throws a value in the current fiber, by the document's words.
func (d *model) throw(v api.Value) api.Event {
	f := &d.s.Fibers[d.s.Current]
	for len(f.Frames) > 0 {
		last := &f.Frames[len(f.Frames)-1]
		fn := d.p.Funcs[last.Fn]
		for _, h := range fn.Handlers {
			if h.From <= last.PC && last.PC < h.To {
				last.Slots = append(slices.Clone(last.Slots[:fn.Locals+h.Height]), v)
				last.PC = h.Target
				return api.Event{}
			}
		}
		f.Frames = f.Frames[:len(f.Frames)-1]
	}
	return api.Event{Kind: api.EvThrown, Value: v}
}

// settle is who comes next.
func (d *model) settle(yields bool) {
	if !yields && !states.Blocked(d.p, d.s, d.s.Current) {
		return
	}
	n := len(d.s.Fibers)
	var order []int
	for k := d.s.Current + 1; k < n; k++ {
		order = append(order, k)
	}
	for k := 0; k <= d.s.Current; k++ {
		order = append(order, k)
	}
	for _, k := range order {
		if !states.Blocked(d.p, d.s, k) {
			d.s.Current = k
			return
		}
	}
	d.end.Kind = api.EndStuck
}

// replace is Replace.
func (d *model) replace(l []api.Frame) bool {
	if d.end.Kind != api.EndNone || len(l) == 0 {
		return false
	}
	s := copyOf(d.s)
	row := s.Fibers[s.Current].Frames
	row = slices.Concat(row[:len(row)-1], copyOf(api.State{Fibers: []api.Fiber{fiber(l...)}}).Fibers[0].Frames)
	s.Fibers[s.Current].Frames = row
	asked := copyOf(s)
	// Right frames may be blocked: they are asked as those of another fiber, while main begins.
	asked.Fibers = []api.Fiber{fiber(frame(0, 0, make([]api.Value, d.p.Funcs[0].Locals)...)), fiber(row...)}
	asked.Current = 0
	if states.Check(d.p, d.core().Facts(), asked) != api.OK {
		return false
	}
	d.s = s
	d.settle(false)
	return true
}

// tell is all that a machine tells, by the document's words.
func (d *model) tell() told {
	k := told{texts: d.s.Texts, report: api.Report{Out: d.out, End: d.end, Steps: d.s.Steps, Spent: d.s.Spent}}
	if d.end.Kind == api.EndNone {
		l := d.s.Fibers[d.s.Current].Frames
		k.state, k.top, k.depth, k.safe = states.Canon(d.s), l[len(l)-1], len(l), states.Safe(d.p, d.s)
	}
	return k
}

// held holds all that a machine tells against the model.
func (d *model) held(t testing.TB, m *Machine) {
	t.Helper()
	a, b := tell(m), d.tell()
	if !a.same(b) {
		t.Fatalf("it tells\n%+v\nnot\n%+v", a, b)
	}
	if m.End() != b.report.End || !slices.Equal(m.Out(), b.report.Out) {
		t.Fatalf("end %v, printed %q; not %v, %q", m.End(), m.Out(), b.report.End, b.report.Out)
	}
}

// stepped makes a step of both, and holds them against each other.
func (d *model) stepped(t testing.TB, m *Machine) bool {
	t.Helper()
	was := copyOf(d.s)
	want := d.step()
	if got := m.Step(); got != want {
		t.Fatalf("of %+v: %v, not %v", was, got, want)
	}
	d.held(t, m)
	return want
}
