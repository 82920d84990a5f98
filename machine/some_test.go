package machine

import (
	"math"
	"math/rand"
	"slices"
	"strconv"
	"testing"

	"portage/api"
	"portage/asm"
	"portage/code"
	"portage/states"
	"portage/verify"
)

func val(kind int, n int64) api.Value { return api.Value{Kind: kind, N: n} }

func whole(n int64) api.Value { return val(api.Int, n) }

func txt(n int64) api.Value { return val(api.Text, n) }

func vals(l ...api.Value) []api.Value { return l }

func ins(op int, a ...int64) api.Instr {
	if len(a) > 0 {
		return api.Instr{Op: op, A: a[0]}
	}
	return api.Instr{Op: op}
}

// frame is a frame with these slots.
func frame(fn, pc int, slots ...api.Value) api.Frame {
	return api.Frame{Fn: fn, PC: pc, Slots: slots}
}

// fiber is a fiber of these frames.
func fiber(l ...api.Frame) api.Fiber { return api.Fiber{Frames: l} }

// parsed is a program of the assembler's text.
func parsed(t testing.TB, text string) api.Program {
	t.Helper()
	p, line, err := asm.Parse(text)
	if err != api.OK {
		t.Fatal(err, "in line", line)
	}
	return p
}

// fresh is a machine at the beginning of a program.
func fresh(t testing.TB, p api.Program, fuel, budget int, input ...string) *Machine {
	t.Helper()
	m, err := New(p, api.Limits{Fuel: fuel, Budget: budget}, input)
	if err != api.OK || m == nil {
		t.Fatal("New:", err)
	}
	return m
}

// loaded is a machine in a state, which must be right.
func loaded(t testing.TB, p api.Program, l api.Limits, input []string, s api.State) *Machine {
	t.Helper()
	m, err := Load(p, l, input, s)
	if err != api.OK || m == nil {
		t.Fatal("Load:", err)
	}
	return m
}

// factsOf are the facts of a program that is verified.
func factsOf(t testing.TB, p api.Program) api.Facts {
	t.Helper()
	f, at, err := verify.Program(p)
	if err != api.OK {
		t.Fatal(err, "at", at)
	}
	return f
}

// edges are whole numbers about which sums and places turn.
func edges() []int {
	return []int{math.MinInt, math.MinInt + 1, -1 << 32, -2, -1, 0, 1, 2, 3, 63, 64, 65, 1 << 32, math.MaxInt - 1, math.MaxInt}
}

func sameFrame(a, b api.Frame) bool {
	return a.Fn == b.Fn && a.PC == b.PC && slices.Equal(a.Slots, b.Slots)
}

func sameFiber(a, b api.Fiber) bool { return slices.EqualFunc(a.Frames, b.Frames, sameFrame) }

func sameObject(a, b api.Object) bool {
	return a.Kind == b.Kind && a.Fn == b.Fn && a.Cap == b.Cap && a.Shut == b.Shut && slices.Equal(a.Items, b.Items) && slices.Equal(a.Keys, b.Keys)
}

// sameState holds two states against each other, their numbers too.
func sameState(a, b api.State) bool {
	return a.Current == b.Current && a.Steps == b.Steps && a.Spent == b.Spent && a.Read == b.Read &&
		slices.Equal(a.Texts, b.Texts) && slices.EqualFunc(a.Objects, b.Objects, sameObject) && slices.EqualFunc(a.Fibers, b.Fibers, sameFiber)
}

func sameReport(a, b api.Report) bool {
	return slices.Equal(a.Out, b.Out) && a.End == b.End && a.Steps == b.Steps && a.Spent == b.Spent && a.Stats == b.Stats
}

// told is all that a machine tells of itself.
type told struct {
	state  api.State
	report api.Report
	top    api.Frame
	depth  int
	safe   bool
	texts  []string
}

func tell(m *Machine) told {
	f, n := m.Top()
	return told{m.State(), m.Report(), f, n, m.Safe(), m.Core().World().Texts.Items()}
}

func (a told) same(b told) bool {
	return sameState(a.state, b.state) && sameReport(a.report, b.report) && sameFrame(a.top, b.top) && a.depth == b.depth && a.safe == b.safe && slices.Equal(a.texts, b.texts)
}

// copyOf is a state in memory of its own.
func copyOf(s api.State) api.State {
	s.Texts, s.Objects, s.Fibers = slices.Clone(s.Texts), slices.Clone(s.Objects), slices.Clone(s.Fibers)
	for i := range s.Objects {
		o := &s.Objects[i]
		o.Items, o.Keys = slices.Clone(o.Items), slices.Clone(o.Keys)
	}
	for i := range s.Fibers {
		l := slices.Clone(s.Fibers[i].Frames)
		for k := range l {
			l[k].Slots = slices.Clone(l[k].Slots)
		}
		s.Fibers[i].Frames = l
	}
	return s
}

// consts are constants of both kinds, among them a trap's name.
func consts() []api.Const {
	return []api.Const{{Kind: api.Text, Text: "x"}, {Kind: api.Real, N: 0x3FF8000000000000}, {Kind: api.Text}, {Kind: api.Text, Text: "type"}}
}

// writer writes one function that fits, the height of each instruction known from its making.
type writer struct {
	r       *rand.Rand
	funcs   []api.Function // of which the parameters are known
	locals  int
	code    []api.Instr
	heights []int
	open    [][2]int // jumps whose place is not known yet, and the height there
}

func (w *writer) put(i api.Instr, height int) {
	w.code = append(w.code, i)
	w.heights = append(w.heights, height)
}

// row writes instructions one behind the other, and tells the height behind them.
func (w *writer) row(height int, l ...api.Instr) int {
	for _, i := range l {
		takes, puts, _ := code.Effect(i)
		w.put(i, height)
		height += puts - takes
	}
	return height
}

// operand is one that is right in the programs that are drawn here.
func (w *writer) operand(op int) (int64, bool) {
	switch kind, _ := code.Operand(op); kind {
	case code.Number:
		return int64(w.r.Intn(5) - 1), true
	case code.Local:
		return w.local(), true
	case code.Consts:
		if op == api.OpConst {
			return int64(w.r.Intn(len(consts()))), true
		}
		return []int64{0, 2, 3}[w.r.Intn(3)], true // keys are texts
	case code.Funcs:
		return int64(w.r.Intn(len(w.funcs))), true
	case code.Count:
		return int64(w.r.Intn(4)), true
	case code.Width:
		return int64(8 << w.r.Intn(3)), true
	case code.Room:
		return int64(1 + w.r.Intn(3)), true
	case code.Place:
		return 0, false
	}
	return 0, true
}

func (w *writer) local() int64 { return int64(w.r.Intn(w.locals)) }

// plain writes any instruction but a jump, ret or throw that fits at a height, and tells the height behind it.
func (w *writer) plain(height int) int {
	for {
		op := w.r.Intn(api.Ops)
		a, ok := w.operand(op)
		if !ok || op == api.OpRet || op == api.OpThrow {
			continue
		}
		takes, puts, _ := code.Effect(ins(op, a))
		if after := height - takes + puts; takes <= height && after <= 12 {
			return w.row(height, ins(op, a))
		}
	}
}

// leap writes a jump of some kind, to a place with the right height that is there (its own too), or to one that is yet to come.
func (w *writer) leap(op, height int) {
	after := height
	if op != api.OpJump {
		after--
	}
	back := w.r.Intn(len(w.code) + 1)
	w.put(ins(op, int64(back)), height)
	if w.heights[back] != after || w.r.Intn(2) == 0 {
		w.open = append(w.open, [2]int{len(w.code) - 1, after})
	}
}

// land lets an open jump lead to the next instruction, and tells the height there.
func (w *writer) land() int {
	k := w.r.Intn(len(w.open))
	s := w.open[k]
	w.open = slices.Delete(w.open, k, k+1)
	w.code[s[0]].A = int64(len(w.code))
	return s[1]
}

// finish leaves the function at a height by an instruction behind which nothing comes.
func (w *writer) finish(height int) {
	if height == 0 {
		w.put(ins(api.OpNil), 0)
		height = 1
	}
	w.put(ins([]int{api.OpRet, api.OpRet, api.OpThrow}[w.r.Intn(3)]), height)
}

// enter writes a call or a spawn of a function, mostly with as many values as it takes: locals, which may be channels.
func (w *writer) enter(op, height int) int {
	fn := w.r.Intn(len(w.funcs))
	n := w.funcs[fn].Params
	if w.r.Intn(8) == 0 {
		n = w.r.Intn(4)
	}
	height = w.row(height, ins(api.OpFunc, int64(fn)))
	for range n {
		height = w.row(height, ins(api.OpLoad, w.local()))
	}
	return w.row(height, ins(op, int64(n)))
}

// fibersOwn writes something for which there are fibers, and tells the height behind it.
func (w *writer) fibersOwn(height int) int {
	switch w.r.Intn(8) {
	case 0, 1:
		return w.row(height, ins(api.OpChan, int64(1+w.r.Intn(2))), ins(api.OpStore, w.local()))
	case 2:
		return w.row(height, ins(api.OpLoad, w.local()), ins(api.OpRecv), ins(api.OpPrint))
	case 3:
		return w.row(height, ins(api.OpLoad, w.local()), ins(api.OpInt, int64(w.r.Intn(9))), ins(api.OpSend))
	case 4:
		return w.row(height, ins(api.OpLoad, w.local()), ins(api.OpShut))
	case 5:
		return w.row(height, ins(api.OpYield))
	case 6:
		return w.enter(api.OpCall, height)
	}
	return w.enter(api.OpSpawn, height)
}

func (w *writer) body(n int) {
	height := 0
	for len(w.code) < n {
		switch k := w.r.Intn(12); {
		case k == 0 && height > 0:
			w.leap([]int{api.OpJz, api.OpJnz}[w.r.Intn(2)], height)
			height--
		case k == 1 && len(w.open) > 0:
			w.finish(height)
			height = w.land()
		case k == 2 && len(w.open) > 0:
			w.leap(api.OpJump, height)
			height = w.land()
		case k < 9 && height < 8:
			height = w.fibersOwn(height)
		default:
			height = w.plain(height)
		}
	}
	w.finish(height)
	for len(w.open) > 0 {
		w.finish(w.land())
	}
}

// guarded is a handler that holds a piece of the body and fits.
func (w *writer) guarded(n int) api.Handler {
	from := w.r.Intn(n)
	to := from + 1 + w.r.Intn(n-from)
	least := api.MaxHeight - 1
	for pc := from; pc < to; pc++ {
		takes, _, _ := code.Effect(w.code[pc])
		least = min(least, w.heights[pc]-takes)
	}
	height := w.r.Intn(least + 1)
	for pc, h := range w.heights {
		if h == height+1 && w.r.Intn(3) == 0 {
			return api.Handler{From: from, To: to, Target: pc, Height: height}
		}
	}
	w.finish(height + 1)
	return api.Handler{From: from, To: to, Target: len(w.code) - 1, Height: height}
}

// again is a handler that holds the whole body, and begins it anew.
func (w *writer) again(n int) api.Handler {
	to := len(w.code)
	w.row(1, ins(api.OpPop), ins(api.OpJump, 0))
	return api.Handler{From: 0, To: n, Target: to}
}

// drawnProgram is a program that fits, with much ado among fibers.
func drawnProgram(r *rand.Rand, most int) api.Program {
	p := api.Program{Consts: consts()}
	for k := range 2 + r.Intn(3) {
		f := api.Function{Name: "f" + strconv.Itoa(k), Locals: 1 + r.Intn(3)}
		if k > 0 {
			f.Params = r.Intn(f.Locals + 1)
		}
		p.Funcs = append(p.Funcs, f)
	}
	for k := range p.Funcs {
		f := &p.Funcs[k]
		w := writer{r: r, funcs: p.Funcs, locals: f.Locals}
		w.body(1 + r.Intn(most))
		n := len(w.code)
		for range r.Intn(3) {
			f.Handlers = append(f.Handlers, w.guarded(n))
		}
		if r.Intn(3) > 0 {
			f.Handlers = append(f.Handlers, w.again(n))
		}
		f.Code = w.code
	}
	return p
}

// maker makes states that are right by the way in which they are made.
type maker struct {
	r *rand.Rand
	p api.Program
	f api.Facts
	s api.State
}

// value is a right value.
func (m *maker) value() api.Value {
	if n := len(m.s.Objects); n > 0 && m.r.Intn(2) == 0 {
		k := m.r.Intn(n)
		return val(m.s.Objects[k].Kind, int64(k))
	}
	if n := len(m.s.Texts); n > 0 && m.r.Intn(4) == 0 {
		return txt(int64(m.r.Intn(n)))
	}
	switch m.r.Intn(5) {
	case 0:
		return val(api.Bool, int64(m.r.Intn(2)))
	case 1:
		return whole(int64(m.r.Intn(4) - 1))
	case 2:
		return val(api.Real, []int64{0, math.MinInt64, 0x3FF8000000000000, 0x7FF8000000000000}[m.r.Intn(4)])
	case 3:
		return api.Value{}
	}
	return val(api.Func, int64(m.r.Intn(len(m.p.Funcs))))
}

func (m *maker) values(n int) []api.Value {
	var l []api.Value
	for range n {
		l = append(l, m.value())
	}
	return l
}

// fill gives an object, of which the kind is known, all else.
func (m *maker) fill(o *api.Object) {
	switch o.Kind {
	case api.Array:
		o.Items = m.values(m.r.Intn(4))
	case api.Record:
		for _, k := range m.r.Perm(len(m.s.Texts))[:m.r.Intn(min(3, len(m.s.Texts))+1)] {
			o.Keys = append(o.Keys, int64(k))
		}
		o.Items = m.values(len(o.Keys))
	case api.Bound:
		o.Fn = m.r.Intn(len(m.p.Funcs))
		o.Items = m.values(m.r.Intn(m.p.Funcs[o.Fn].Params + 1))
	case api.Chan:
		o.Cap = 1 + m.r.Intn(3)
		o.Items = m.values(m.r.Intn(o.Cap + 1))
		o.Shut = m.r.Intn(4) == 0
	}
}

// frames are right frames; fewer than a fiber may have, but now and then just as many.
func (m *maker) frames() []api.Frame {
	n := m.r.Intn(4)
	if m.r.Intn(20) == 0 {
		n = api.MaxFrames - 1
	}
	var l []api.Frame
	for range n {
		if f, ok := m.waiting(); ok {
			l = append(l, f)
		}
	}
	fn := m.r.Intn(len(m.p.Funcs))
	return append(l, m.at(fn, m.r.Intn(len(m.p.Funcs[fn].Code))))
}

// at is a right last frame at a place; where it waits for a channel, often with one.
func (m *maker) at(fn, pc int) api.Frame {
	f := frame(fn, pc, m.values(m.p.Funcs[fn].Locals+m.f.Heights[fn][pc])...)
	upon := map[int]int{api.OpRecv: 1, api.OpSend: 2}[m.p.Funcs[fn].Code[pc].Op]
	for k, o := range m.s.Objects {
		if upon > 0 && o.Kind == api.Chan && m.r.Intn(2) == 0 {
			f.Slots[len(f.Slots)-upon] = val(api.Chan, int64(k))
		}
	}
	return f
}

// waiting is a right frame that waits at a call; false: there is none in the function that was drawn.
func (m *maker) waiting() (api.Frame, bool) {
	fn := m.r.Intn(len(m.p.Funcs))
	f := m.p.Funcs[fn]
	for _, pc := range m.r.Perm(len(f.Code)) {
		if f.Code[pc].Op == api.OpCall {
			return frame(fn, pc, m.values(f.Locals+m.f.Heights[fn][pc]-int(f.Code[pc].A)-1)...), true
		}
	}
	return api.Frame{}, false
}

// things draws texts and objects.
func (m *maker) things() {
	for _, k := range m.r.Perm(6)[:m.r.Intn(6)] {
		m.s.Texts = append(m.s.Texts, []string{"", "x", "7", "\xff", "fibers", "closed"}[k])
	}
	for range m.r.Intn(8) {
		m.s.Objects = append(m.s.Objects, api.Object{Kind: []int{api.Array, api.Record, api.Bound, api.Chan, api.Chan}[m.r.Intn(5)]})
	}
	for k := range m.s.Objects {
		m.fill(&m.s.Objects[k])
	}
}

// drawnState is a right state of a program.
func drawnState(r *rand.Rand, p api.Program, f api.Facts) api.State {
	for {
		m := maker{r: r, p: p, f: f, s: api.State{Steps: r.Intn(9), Spent: r.Intn(9), Read: r.Intn(4)}}
		m.things()
		n := 1 + r.Intn(5)
		if r.Intn(10) == 0 {
			n = api.MaxFibers
		}
		m.s.Fibers = append(m.s.Fibers, fiber(m.frames()...))
		for range n - 1 {
			m.s.Fibers = append(m.s.Fibers, api.Fiber{})
			if r.Intn(4) > 0 {
				m.s.Fibers[len(m.s.Fibers)-1] = fiber(m.frames()...)
			}
		}
		for _, m.s.Current = range r.Perm(n) {
			if states.Check(p, f, m.s) == api.OK {
				return m.s
			}
		}
	}
}

// drawnInput is an input of a few short texts.
func drawnInput(r *rand.Rand) []string {
	var l []string
	for range r.Intn(7) {
		l = append(l, []string{"", "x", "new", "\x00\xff", "key"}[r.Intn(5)])
	}
	return l
}
