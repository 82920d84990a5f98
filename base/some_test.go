package base

import (
	"math"
	"math/rand"
	"slices"
	"strconv"
	"testing"

	"portage/api"
	"portage/code"
	"portage/verify"
)

func val(kind int, n int64) api.Value { return api.Value{Kind: kind, N: n} }

func whole(n int64) api.Value { return val(api.Int, n) }

func txt(n int64) api.Value { return val(api.Text, n) }

func vals(l ...api.Value) []api.Value { return l }

func ins(op int, a ...int64) api.Instr {
	if len(a) > 0 {
		return api.Instr{Op: op, A: a[0]}
	}
	return api.Instr{Op: op}
}

func list(l ...api.Instr) []api.Instr { return l }

// alone is a program of main alone.
func alone(locals int, l []api.Instr, hs ...api.Handler) api.Program {
	return api.Program{Consts: consts(), Funcs: []api.Function{{Name: "main", Locals: locals, Code: l, Handlers: hs}}}
}

// consts are constants of both kinds, among them texts that a world may have already, and a trap's name.
func consts() []api.Const {
	return []api.Const{{Kind: api.Text, Text: "x"}, {Kind: api.Real, N: 5}, {Kind: api.Text, Text: "key"}, {Kind: api.Text}, {Kind: api.Text, Text: "type"}, {Kind: api.Real, N: math.MinInt64}}
}

// frame is a frame with these slots.
func frame(fn, pc int, slots ...api.Value) api.Frame {
	return api.Frame{Fn: fn, PC: pc, Slots: slots}
}

// fiber is a fiber of these frames.
func fiber(l ...api.Frame) *api.Fiber { return &api.Fiber{Frames: l} }

// begun is a core with nothing done yet.
func begun(t testing.TB, p api.Program, fuel, budget int, input ...string) *Core {
	t.Helper()
	return loaded(t, p, api.Limits{Fuel: fuel, Budget: budget}, input, api.State{})
}

// loaded is a core over a state, which must be right.
func loaded(t testing.TB, p api.Program, l api.Limits, input []string, s api.State) *Core {
	t.Helper()
	c, err := New(p, l, input, s)
	if err != api.OK || c == nil {
		t.Fatal("New:", err)
	}
	return c
}

// factsOf are the facts of a program that is verified.
func factsOf(t testing.TB, p api.Program) api.Facts {
	t.Helper()
	f, at, err := verify.Program(p)
	if err != api.OK {
		t.Fatal(err, "at", at)
	}
	return f
}

// edges are whole numbers about which sums and places turn.
func edges() []int {
	return []int{math.MinInt, math.MinInt + 1, -1 << 32, -2, -1, 0, 1, 2, 3, 63, 64, 65, 1 << 32, math.MaxInt - 1, math.MaxInt}
}

func sameFrame(a, b api.Frame) bool {
	return a.Fn == b.Fn && a.PC == b.PC && slices.Equal(a.Slots, b.Slots)
}

func sameFiber(a, b api.Fiber) bool { return slices.EqualFunc(a.Frames, b.Frames, sameFrame) }

func sameObject(a, b api.Object) bool {
	return a.Kind == b.Kind && a.Fn == b.Fn && a.Cap == b.Cap && a.Shut == b.Shut && slices.Equal(a.Items, b.Items) && slices.Equal(a.Keys, b.Keys)
}

// copiedFiber is a fiber in memory of its own.
func copiedFiber(f api.Fiber) api.Fiber {
	out := api.Fiber{Frames: slices.Clone(f.Frames)}
	for i := range out.Frames {
		out.Frames[i].Slots = slices.Clone(out.Frames[i].Slots)
	}
	return out
}

// copiedObjects are objects in memory of their own.
func copiedObjects(l []api.Object) []api.Object {
	l = slices.Clone(l)
	for i := range l {
		l[i].Items, l[i].Keys = slices.Clone(l[i].Items), slices.Clone(l[i].Keys)
	}
	return l
}

// writer writes one function that fits, the height of each instruction known from its making.
type writer struct {
	r       *rand.Rand
	locals  int
	code    []api.Instr
	heights []int
	open    [][2]int // jumps whose place is not known yet, and the height there
}

func (w *writer) put(i api.Instr, height int) {
	w.code = append(w.code, i)
	w.heights = append(w.heights, height)
}

// operand is one that is right in the programs that are drawn here.
func (w *writer) operand(op int) (int64, bool) {
	switch kind, _ := code.Operand(op); kind {
	case code.Number:
		return int64(w.r.Intn(5) - 1), true
	case code.Local:
		return int64(w.r.Intn(max(w.locals, 1))), w.locals > 0
	case code.Consts:
		if op == api.OpConst {
			return int64(w.r.Intn(len(consts()))), true
		}
		return []int64{0, 2, 3, 4}[w.r.Intn(4)], true // keys are texts
	case code.Funcs:
		return int64(w.r.Intn(2)), true
	case code.Count:
		return int64(w.r.Intn(4)), true
	case code.Width:
		return int64(8 << w.r.Intn(3)), true
	case code.Room:
		return int64(1 + w.r.Intn(4)), true
	case code.Place:
		return 0, false
	}
	return 0, true
}

// plain writes any instruction but a jump, ret or throw that fits at a height, and tells the height behind it.
func (w *writer) plain(height int) int {
	for {
		op := w.r.Intn(api.Ops)
		a, ok := w.operand(op)
		if !ok || op == api.OpRet || op == api.OpThrow {
			continue
		}
		takes, puts, _ := code.Effect(ins(op, a))
		if after := height - takes + puts; takes <= height && after <= 12 {
			w.put(ins(op, a), height)
			return after
		}
	}
}

// leap writes a jump of some kind, to a place with the right height that is there (its own too), or to one that is yet to come.
func (w *writer) leap(op, height int) {
	after := height
	if op != api.OpJump {
		after--
	}
	back := w.r.Intn(len(w.code) + 1)
	w.put(ins(op, int64(back)), height)
	if w.heights[back] != after || w.r.Intn(2) == 0 {
		w.open = append(w.open, [2]int{len(w.code) - 1, after})
	}
}

// land lets an open jump lead to the next instruction, and tells the height there.
func (w *writer) land() int {
	k := w.r.Intn(len(w.open))
	s := w.open[k]
	w.open = slices.Delete(w.open, k, k+1)
	w.code[s[0]].A = int64(len(w.code))
	return s[1]
}

// finish leaves the function at a height by an instruction behind which nothing comes.
func (w *writer) finish(height int) {
	if height == 0 {
		w.put(ins(api.OpNil), 0)
		height = 1
	}
	w.put(ins([]int{api.OpRet, api.OpRet, api.OpThrow}[w.r.Intn(3)]), height)
}

func (w *writer) body(n int) {
	height := 0
	for len(w.code) < n {
		switch k := w.r.Intn(12); {
		case k == 0 && height > 0:
			w.leap([]int{api.OpJz, api.OpJnz}[w.r.Intn(2)], height)
			height--
		case k == 1 && len(w.open) > 0:
			w.finish(height)
			height = w.land()
		case k == 2 && len(w.open) > 0:
			w.leap(api.OpJump, height)
			height = w.land()
		case k == 3 && height < 10:
			// The values of a call: else nearly all calls would be of what can't be called.
			w.put(ins(api.OpFunc, int64(w.r.Intn(2))), height)
			n := w.r.Intn(3)
			for j := range n {
				w.put(ins(api.OpInt, int64(w.r.Intn(3))), height+1+j)
			}
			w.put(ins(api.OpCall, int64(n)), height+1+n)
			height++
		default:
			height = w.plain(height)
		}
	}
	w.finish(height)
	for len(w.open) > 0 {
		w.finish(w.land())
	}
}

// guarded is a handler that holds a piece of the body and fits.
func (w *writer) guarded(n int) api.Handler {
	from := w.r.Intn(n)
	to := from + 1 + w.r.Intn(n-from)
	least := api.MaxHeight - 1
	for pc := from; pc < to; pc++ {
		takes, _, _ := code.Effect(w.code[pc])
		least = min(least, w.heights[pc]-takes)
	}
	height := w.r.Intn(least + 1)
	for pc, h := range w.heights {
		if h == height+1 && w.r.Intn(3) == 0 {
			return api.Handler{From: from, To: to, Target: pc, Height: height}
		}
	}
	w.finish(height + 1)
	return api.Handler{From: from, To: to, Target: len(w.code) - 1, Height: height}
}

// drawnProgram is a program that fits.
func drawnProgram(r *rand.Rand, most int) api.Program {
	p := api.Program{Consts: consts()}
	for k := range 2 + r.Intn(3) {
		w := writer{r: r, locals: r.Intn(4)}
		w.body(1 + r.Intn(most))
		f := api.Function{Name: "f" + strconv.Itoa(k), Locals: w.locals}
		n := len(w.code)
		for range r.Intn(4) {
			f.Handlers = append(f.Handlers, w.guarded(n))
		}
		f.Code = w.code
		if k > 0 {
			f.Params = r.Intn(f.Locals + 1)
		}
		p.Funcs = append(p.Funcs, f)
	}
	return p
}

// maker makes texts, objects and fibers that are right by the way in which they are made.
type maker struct {
	r *rand.Rand
	p api.Program
	f api.Facts
	s api.State
}

// value is a right value.
func (m *maker) value() api.Value {
	if n := len(m.s.Objects); n > 0 && m.r.Intn(3) == 0 {
		k := m.r.Intn(n)
		return val(m.s.Objects[k].Kind, int64(k))
	}
	if n := len(m.s.Texts); n > 0 && m.r.Intn(4) == 0 {
		return txt(int64(m.r.Intn(n)))
	}
	switch m.r.Intn(6) {
	case 0:
		return val(api.Bool, int64(m.r.Intn(2)))
	case 1, 2:
		return whole(int64(m.r.Intn(4) - 1))
	case 3:
		return whole(int64(edges()[m.r.Intn(len(edges()))]))
	case 4:
		return val(api.Real, []int64{0, math.MinInt64, 0x3FF8000000000000, 0x7FF0000000000000, 0x7FF8000000000000, -0x0010000000000000}[m.r.Intn(6)])
	}
	if m.r.Intn(3) == 0 {
		return api.Value{}
	}
	return val(api.Func, int64(m.r.Intn(len(m.p.Funcs))))
}

func (m *maker) values(n int) []api.Value {
	var l []api.Value
	for range n {
		l = append(l, m.value())
	}
	return l
}

// fill gives an object, of which the kind is known, all else.
func (m *maker) fill(o *api.Object) {
	switch o.Kind {
	case api.Array:
		o.Items = m.values(m.r.Intn(4))
	case api.Record:
		for _, k := range m.r.Perm(len(m.s.Texts))[:m.r.Intn(min(3, len(m.s.Texts))+1)] {
			o.Keys = append(o.Keys, int64(k))
		}
		o.Items = m.values(len(o.Keys))
	case api.Bound:
		o.Fn = m.r.Intn(len(m.p.Funcs))
		o.Items = m.values(m.r.Intn(m.p.Funcs[o.Fn].Params + 1))
	case api.Chan:
		o.Cap = 1 + m.r.Intn(3)
		o.Items = m.values(m.r.Intn(o.Cap + 1))
		o.Shut = m.r.Intn(3) == 0
	}
}

// drawnState is a right state without fibers.
func drawnState(r *rand.Rand, p api.Program, f api.Facts) api.State {
	m := maker{r: r, p: p, f: f, s: api.State{Steps: r.Intn(4), Spent: r.Intn(4), Read: r.Intn(4)}}
	for k := range r.Intn(6) {
		m.s.Texts = append(m.s.Texts, []string{"", "x", "7", "\xff", "1.5", "index"}[(k+r.Intn(2)*3)%6]+[]string{"", "", "0"}[k/2])
	}
	slices.Sort(m.s.Texts)
	m.s.Texts = slices.Compact(m.s.Texts)
	r.Shuffle(len(m.s.Texts), func(i, j int) { m.s.Texts[i], m.s.Texts[j] = m.s.Texts[j], m.s.Texts[i] })
	for range r.Intn(7) {
		m.s.Objects = append(m.s.Objects, api.Object{Kind: api.Array + r.Intn(4)})
	}
	for k := range m.s.Objects {
		m.fill(&m.s.Objects[k])
	}
	return m.s
}

// frames are right frames; fewer than a fiber may have, but now and then just as many.
func (m *maker) frames() []api.Frame {
	n := m.r.Intn(4)
	if m.r.Intn(20) == 0 {
		n = api.MaxFrames - 1
	}
	var l []api.Frame
	for range n {
		if f, ok := m.waiting(); ok {
			l = append(l, f)
		}
	}
	fn := m.r.Intn(len(m.p.Funcs))
	return append(l, m.at(fn, m.r.Intn(len(m.p.Funcs[fn].Code))))
}

// at is a right last frame at a place.
func (m *maker) at(fn, pc int) api.Frame {
	return frame(fn, pc, m.values(m.p.Funcs[fn].Locals+m.f.Heights[fn][pc])...)
}

// waiting is a right frame that waits at a call; false: there is none in the function that was drawn.
func (m *maker) waiting() (api.Frame, bool) {
	fn := m.r.Intn(len(m.p.Funcs))
	f := m.p.Funcs[fn]
	for _, pc := range m.r.Perm(len(f.Code)) {
		if f.Code[pc].Op == api.OpCall {
			return frame(fn, pc, m.values(f.Locals+m.f.Heights[fn][pc]-int(f.Code[pc].A)-1)...), true
		}
	}
	return api.Frame{}, false
}

// worldly is a maker over what lies in a core's world by now.
func worldly(r *rand.Rand, c *Core) *maker {
	return &maker{r: r, p: c.world.Program, f: c.facts, s: stateOf(c)}
}

// stateOf is what a core holds, as a state without fibers.
func stateOf(c *Core) api.State {
	s := api.State{Texts: c.World().Texts.Items(), Steps: c.Steps(), Spent: c.World().Heap.Spent(), Read: c.Read()}
	for k := range c.World().Heap.Len() {
		o, _ := c.World().Heap.Object(k)
		s.Objects = append(s.Objects, o)
	}
	return s
}

// drawnInput is an input of a few short texts.
func drawnInput(r *rand.Rand) []string {
	var l []string
	for range r.Intn(7) {
		l = append(l, []string{"", "x", "new", "\x00\xff", "key"}[r.Intn(5)])
	}
	return l
}
