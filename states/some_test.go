package states

import (
	"math"
	"math/rand"
	"slices"
	"strconv"
	"testing"

	"portage/api"
	"portage/asm"
	"portage/verify"
)

func val(kind int, n int64) api.Value { return api.Value{Kind: kind, N: n} }

func txt(n int64) api.Value { return val(api.Text, n) }

func arr(n int64) api.Value { return val(api.Array, n) }

func vals(l ...api.Value) []api.Value { return l }

// array is an array of these items.
func array(l ...api.Value) api.Object { return api.Object{Kind: api.Array, Items: l} }

// frame is a frame with these slots.
func frame(fn, pc int, slots ...api.Value) api.Frame {
	return api.Frame{Fn: fn, PC: pc, Slots: slots}
}

// fiber is a fiber of these frames.
func fiber(l ...api.Frame) api.Fiber { return api.Fiber{Frames: l} }

// nils are n values.
func nils(n int) []api.Value { return make([]api.Value, n) }

// verified is a program of the assembler's text, and its facts.
func verified(t testing.TB, text string) (api.Program, api.Facts) {
	t.Helper()
	p, line, err := asm.Parse(text)
	if err != api.OK {
		t.Fatal(err, "in line", line)
	}
	f, at, err := verify.Program(p)
	if err != api.OK {
		t.Fatal(err, "at", at)
	}
	return p, f
}

// example is the program of the chapter's examples.
func example(t testing.TB) (api.Program, api.Facts) {
	t.Helper()
	return verified(t, "func main 0 1\nagain:\nnil\nstore 0\njump again")
}

// at is a state of the example: one fiber with one frame.
func at(pc int, slots ...api.Value) api.State {
	return api.State{Fibers: []api.Fiber{fiber(frame(0, pc, slots...))}}
}

// Functions of the yard, and places in them.
const (
	yardMain, yardSum, yardTake, yardBare = 0, 1, 2, 3

	mainCall, mainSend, mainRecv, mainBack = 5, 9, 12, 14
	sumCall, takeRecv, bareCall            = 3, 1, 1
)

// yard is a program with calls of several counts, sends and receives at several heights, functions with and without locals and parameters.
func yard(t testing.TB) (api.Program, api.Facts) {
	t.Helper()
	return verified(t, `
const text "k"
func main 0 2
again:
  int 5
  store 1
  func sum
  load 1
  load 1
  call 2
  pop
  chan 1
  load 0
  send
  nil
  chan 2
  recv
  array 2
  jz again
  jump again
func sum 2 3
  load 0
  load 1
  func bare
  call 0
  pop
  add
  ret
func take 1 1
  load 0
  recv
  jnz yes
  nil
  throw
yes:
  true
  ret
func bare 0 0
  func bare
  call 0
  ret
`)
}

// edges are whole numbers about which sums and places turn.
func edges() []int {
	return []int{math.MinInt, math.MinInt + 1, -1 << 32, -2, -1, 0, 1, 2, 3, 63, 64, 65, 1 << 32, math.MaxInt - 1, math.MaxInt}
}

// maker makes states of the yard that are right by the way in which they are made.
type maker struct {
	r *rand.Rand
	p api.Program
	f api.Facts
	s api.State
}

// value is a right value of the state under way, whose texts are all there, and whose objects have their kinds.
func (m *maker) value() api.Value {
	if n := len(m.s.Objects); n > 0 && m.r.Intn(2) == 0 {
		k := m.r.Intn(n)
		return val(m.s.Objects[k].Kind, int64(k))
	}
	if n := len(m.s.Texts); n > 0 && m.r.Intn(3) == 0 {
		return txt(int64(m.r.Intn(n)))
	}
	switch m.r.Intn(5) {
	case 0:
		return val(api.Bool, int64(m.r.Intn(2)))
	case 1:
		return val(api.Int, int64(edges()[m.r.Intn(len(edges()))]))
	case 2:
		return val(api.Real, []int64{0, math.MinInt64, 0x7FF0000000000000, 0x7FF8000000000000, -0x0010000000000000}[m.r.Intn(5)])
	case 3:
		return val(api.Func, int64(m.r.Intn(len(m.p.Funcs))))
	}
	return val(api.Nil, 0)
}

func (m *maker) values(n int) []api.Value {
	var l []api.Value
	for range n {
		l = append(l, m.value())
	}
	return l
}

// fill gives an object, of which the kind is known, all else.
func (m *maker) fill(o *api.Object) {
	switch o.Kind {
	case api.Array:
		o.Items = m.values(m.r.Intn(4))
	case api.Record:
		for _, k := range m.r.Perm(len(m.s.Texts))[:m.r.Intn(min(3, len(m.s.Texts))+1)] {
			o.Keys = append(o.Keys, int64(k))
		}
		o.Items = m.values(len(o.Keys))
	case api.Bound:
		o.Fn = m.r.Intn(len(m.p.Funcs))
		o.Items = m.values(m.r.Intn(m.p.Funcs[o.Fn].Params + 1))
	case api.Chan:
		o.Cap = 1 + m.r.Intn(3)
		o.Items = m.values(m.r.Intn(o.Cap + 1))
		o.Shut = m.r.Intn(3) == 0
	}
}

// calls are the places of a function's calls.
func calls(f api.Function) []int {
	var l []int
	for pc, i := range f.Code {
		if i.Op == api.OpCall {
			l = append(l, pc)
		}
	}
	return l
}

// frames are right frames.
func (m *maker) frames() []api.Frame {
	var l []api.Frame
	for range m.r.Intn(3) {
		fn := m.r.Intn(len(m.p.Funcs))
		if c := calls(m.p.Funcs[fn]); len(c) > 0 {
			pc := c[m.r.Intn(len(c))]
			n := m.p.Funcs[fn].Locals + m.f.Heights[fn][pc] - int(m.p.Funcs[fn].Code[pc].A) - 1
			l = append(l, api.Frame{Fn: fn, PC: pc, Slots: m.values(n)})
		}
	}
	fn := m.r.Intn(len(m.p.Funcs))
	pc := m.r.Intn(len(m.p.Funcs[fn].Code))
	last := api.Frame{Fn: fn, PC: pc, Slots: m.values(m.p.Funcs[fn].Locals + m.f.Heights[fn][pc])}
	if m.r.Intn(3) == 0 {
		last = m.atChannel()
	}
	return append(l, last)
}

// atChannel is a last frame at a send or recv, mostly of a channel if there is one.
func (m *maker) atChannel() api.Frame {
	v := m.value()
	for k, o := range m.s.Objects {
		if o.Kind == api.Chan && m.r.Intn(2) == 0 {
			v = val(api.Chan, int64(k))
		}
	}
	switch m.r.Intn(3) {
	case 0:
		return frame(yardTake, takeRecv, m.value(), v)
	case 1:
		return frame(yardMain, mainRecv, append(m.values(3), v)...)
	}
	return frame(yardMain, mainSend, append(m.values(2), v, m.value())...)
}

// made is a state that is right by its making.
func made(r *rand.Rand, p api.Program, f api.Facts) api.State {
	for {
		m := maker{r: r, p: p, f: f}
		m.s = api.State{Steps: r.Intn(3), Spent: r.Intn(3), Read: r.Intn(3)}
		for k := range r.Intn(4) {
			m.s.Texts = append(m.s.Texts, []string{"", "x", "\x00", "\xff"}[k]+strconv.Itoa(r.Intn(2)))
		}
		for range r.Intn(6) {
			m.s.Objects = append(m.s.Objects, api.Object{Kind: api.Array + r.Intn(4)})
		}
		for k := range m.s.Objects {
			m.fill(&m.s.Objects[k])
		}
		for k := range 1 + r.Intn(4) {
			var l []api.Frame
			if k == 0 || r.Intn(3) > 0 {
				l = m.frames()
			}
			m.s.Fibers = append(m.s.Fibers, api.Fiber{Frames: l})
		}
		for _, k := range r.Perm(len(m.s.Fibers)) {
			if !waits(p, m.s, k) {
				m.s.Current = k
				return m.s
			}
		}
	}
}

// copied is a state with memory of its own.
func copied(s api.State) api.State {
	s.Texts = append([]string{}, s.Texts...)
	s.Objects = append([]api.Object{}, s.Objects...)
	for k := range s.Objects {
		s.Objects[k].Items = append([]api.Value{}, s.Objects[k].Items...)
		s.Objects[k].Keys = append([]int64{}, s.Objects[k].Keys...)
	}
	s.Fibers = append([]api.Fiber{}, s.Fibers...)
	for k := range s.Fibers {
		l := append([]api.Frame{}, s.Fibers[k].Frames...)
		for i := range l {
			l[i].Slots = append([]api.Value{}, l[i].Slots...)
		}
		s.Fibers[k].Frames = l
	}
	return s
}

// moved is a state that is right whose texts and objects lie in another order, with some added that nothing of it leads to.
func moved(r *rand.Rand, s api.State) api.State {
	s = copied(s)
	texts, objects := r.Perm(len(s.Texts)+r.Intn(3)), r.Perm(len(s.Objects)+r.Intn(3))
	turn := func(v *api.Value) {
		switch v.Kind {
		case api.Text:
			v.N = int64(texts[v.N])
		case api.Array, api.Record, api.Bound, api.Chan:
			v.N = int64(objects[v.N])
		}
	}
	for _, l := range valueLists(&s) {
		for i := range l {
			turn(&l[i])
		}
	}
	for k := range s.Objects {
		for i := range s.Objects[k].Keys {
			s.Objects[k].Keys[i] = int64(texts[s.Objects[k].Keys[i]])
		}
	}
	old, was := s.Texts, s.Objects
	s.Texts, s.Objects = make([]string, len(texts)), make([]api.Object, len(objects))
	for k, n := range texts {
		s.Texts[n] = "added " + strconv.Itoa(k)
		if k < len(old) {
			s.Texts[n] = old[k]
		}
	}
	for k, n := range objects {
		if k < len(was) {
			s.Objects[n] = was[k]
			continue
		}
		// What is added may lead to the others, though nothing leads to it.
		s.Objects[n] = array(arr(int64(n)))
		if len(was) > 0 {
			near := r.Intn(len(was))
			s.Objects[n].Items = vals(val(was[near].Kind, int64(objects[near])))
		}
		if len(texts) > 0 {
			s.Objects[n].Kind, s.Objects[n].Keys = api.Record, []int64{int64(r.Intn(len(texts)))}
			s.Objects[n].Items[0] = txt(int64(r.Intn(len(texts))))
		}
	}
	return s
}

// valueLists are all lists of values of a state.
func valueLists(s *api.State) [][]api.Value {
	var l [][]api.Value
	for _, f := range s.Fibers {
		for _, fr := range f.Frames {
			l = append(l, fr.Slots)
		}
	}
	for _, o := range s.Objects {
		l = append(l, o.Items)
	}
	return l
}

// spoil changes one thing of a state; what comes of it may be right or not.
func spoil(r *rand.Rand, s *api.State) {
	n := r.Intn(5) - 1
	if r.Intn(8) == 0 {
		n = edges()[r.Intn(len(edges()))]
	}
	if l := valueLists(s); r.Intn(2) == 0 && len(l) > 0 {
		if v := l[r.Intn(len(l))]; len(v) > 0 {
			spoilValue(r, &v[r.Intn(len(v))], int64(n))
		}
		return
	}
	switch k := r.Intn(7); {
	case k < 2 && len(s.Fibers) > 0:
		spoilFiber(r, &s.Fibers[r.Intn(len(s.Fibers))], n)
	case k < 4 && len(s.Objects) > 0:
		spoilObject(r, &s.Objects[r.Intn(len(s.Objects))], n)
	case k == 4 && len(s.Texts) > 0:
		s.Texts[r.Intn(len(s.Texts))] = []string{"", "x0", "x1", "new"}[r.Intn(4)]
	case k == 5:
		*[]*int{&s.Current, &s.Steps, &s.Spent, &s.Read}[r.Intn(4)] = n
	case k == 6:
		spoilLists(r, s)
	}
}

func spoilValue(r *rand.Rand, v *api.Value, n int64) {
	switch r.Intn(3) {
	case 0:
		v.Kind = r.Intn(12) - 1
	case 1:
		v.N = n
	case 2:
		*v = val(r.Intn(10), n)
	}
}

func spoilFiber(r *rand.Rand, f *api.Fiber, n int) {
	if len(f.Frames) == 0 || r.Intn(5) == 0 {
		f.Frames = append(f.Frames, frame(r.Intn(4), r.Intn(8), nils(r.Intn(4))...))
		return
	}
	k := r.Intn(len(f.Frames))
	fr := &f.Frames[k]
	switch r.Intn(5) {
	case 0:
		fr.Fn = n
	case 1:
		fr.PC = n
	case 2:
		fr.Slots = append(fr.Slots, val(api.Nil, 0))
	case 3:
		fr.Slots = fr.Slots[:r.Intn(len(fr.Slots)+1)]
	case 4:
		f.Frames = f.Frames[:k]
	}
}

func spoilObject(r *rand.Rand, o *api.Object, n int) {
	switch r.Intn(8) {
	case 0:
		o.Kind = r.Intn(12) - 1
	case 1:
		o.Fn = n
	case 2:
		o.Cap = n
	case 3:
		o.Shut = !o.Shut
	case 4:
		o.Items = append(o.Items, val(api.Nil, 0))
	case 5:
		o.Keys = append(o.Keys, int64(n))
	case 6:
		o.Items = o.Items[:r.Intn(len(o.Items)+1)]
	case 7:
		o.Keys = slices.Clone(o.Keys[:r.Intn(len(o.Keys)+1)])
	}
}

func spoilLists(r *rand.Rand, s *api.State) {
	switch r.Intn(4) {
	case 0:
		s.Fibers = s.Fibers[:r.Intn(len(s.Fibers)+1)]
	case 1:
		s.Objects = s.Objects[:r.Intn(len(s.Objects)+1)]
	case 2:
		s.Texts = s.Texts[:r.Intn(len(s.Texts)+1)]
	case 3:
		s.Fibers = append(s.Fibers, api.Fiber{})
	}
}

// drawn is a state that may be anything: a right one, changed many times over.
func drawn(r *rand.Rand, p api.Program, f api.Facts) api.State {
	s := copied(made(r, p, f))
	for range r.Intn(12) {
		spoil(r, &s)
	}
	return s
}
