package frames

import (
	"math/big"
	"slices"
	"testing"

	"portage/api"
	"portage/heap"
)

// model is a stack by the chapter's words: a row that is made anew at each change.
type model[T any] struct {
	row []T
}

func (m *model[T]) push(l ...T) {
	row := append([]T{}, m.row...)
	for _, t := range l {
		row = append(row, t)
	}
	m.row = row
}

// pop takes one thing off after the other, and turns them round.
func (m *model[T]) pop(n int) ([]T, bool) {
	if n < 0 || len(m.row) < n {
		return nil, false
	}
	var l []T
	for range n {
		l = append(l, m.row[len(m.row)-1])
		m.row = append([]T{}, m.row[:len(m.row)-1]...)
	}
	slices.Reverse(l)
	return l, true
}

// top asks for each thing how many others lie upon it.
func (m *model[T]) top(n int) (t T, ok bool) {
	for i, x := range m.row {
		if len(m.row[i+1:]) == n {
			return x, true
		}
	}
	return t, false
}

func (m *model[T]) cut(n int) bool {
	if n < 0 || len(m.row) < n {
		return false
	}
	var row []T
	for i := range n {
		row = append(row, m.row[i])
	}
	m.row = row
	return true
}

// alike holds all that a stack answers, and that takes nothing, against a row.
func alike[T comparable](t *testing.T, s *Stack[T], m *model[T]) {
	t.Helper()
	if s.Len() != len(m.row) || !slices.Equal(s.Items(), m.row) {
		t.Fatalf("holds %d: %v, not %v", s.Len(), s.Items(), m.row)
	}
	for n := -2; n < len(m.row)+3; n++ {
		sameTop(t, s, m, n)
	}
	for _, n := range edges() {
		sameTop(t, s, m, n)
	}
	if s.Len() != len(m.row) || !slices.Equal(s.Items(), m.row) {
		t.Fatalf("asking changed %v to %v", m.row, s.Items())
	}
}

// sameTop holds Top against a row.
func sameTop[T comparable](t *testing.T, s *Stack[T], m *model[T], n int) {
	t.Helper()
	got, ok := s.Top(n)
	if want, wok := m.top(n); got != want || ok != wok {
		t.Fatalf("of %v: Top(%d) = %v %v, not %v %v", m.row, n, got, ok, want, wok)
	}
}

// samePop holds Pop against a row.
func samePop[T comparable](t *testing.T, s *Stack[T], m *model[T], n int) {
	t.Helper()
	was := slices.Clone(m.row)
	got, ok := s.Pop(n)
	if want, wok := m.pop(n); !slices.Equal(got, want) || ok != wok {
		t.Fatalf("of %v: Pop(%d) = %v %v, not %v %v", was, n, got, ok, want, wok)
	}
	alike(t, s, m)
}

// sameCut holds Cut against a row.
func sameCut[T comparable](t *testing.T, s *Stack[T], m *model[T], n int) {
	t.Helper()
	was := slices.Clone(m.row)
	if got, want := s.Cut(n), m.cut(n); got != want {
		t.Fatalf("of %v: Cut(%d) = %v", was, n, got)
	}
	alike(t, s, m)
}

// added is a sum that does not wrap.
func added(a, b int) *big.Int {
	return new(big.Int).Add(big.NewInt(int64(a)), big.NewInt(int64(b)))
}

// modelFunction seeks a function's number among all of them.
func modelFunction(p api.Program, fn int) (api.Function, bool) {
	for i, f := range p.Funcs {
		if i == fn {
			return f, true
		}
	}
	return api.Function{}, false
}

// modelCallee is P14.6.
func modelCallee(p api.Program, h *heap.Heap, v api.Value, n int) (int, []api.Value, int) {
	var fn int
	var bound []api.Value
	found := false
	for i := range p.Funcs {
		if v.Kind == api.Func && v.N == int64(i) {
			fn, found = i, true
		}
		for k := range h.Len() {
			o, _ := h.Object(k)
			if v.Kind == api.Bound && v.N == int64(k) && o.Kind == api.Bound && o.Fn == i {
				fn, bound, found = i, o.Items, true
			}
		}
	}
	if !found {
		return 0, nil, api.TrapType
	}
	if n < 0 || added(len(bound), n).Cmp(big.NewInt(int64(p.Funcs[fn].Params))) != 0 {
		return 0, nil, api.TrapArity
	}
	return fn, bound, 0
}

// modelEnter is P14.7.
func modelEnter(p api.Program, fn int, args []api.Value) (api.Frame, bool) {
	f, ok := modelFunction(p, fn)
	if !ok || len(args) != f.Params || f.Locals < len(args) || f.Locals > 64 {
		return api.Frame{}, false
	}
	slots := append([]api.Value{}, args...)
	for len(slots) < f.Locals {
		slots = append(slots, api.Value{})
	}
	return api.Frame{Fn: fn, Slots: slots}, true
}

// modelTakes is the first handler of a frame's function that takes what is thrown in the frame.
func modelTakes(p api.Program, f api.Frame) (api.Handler, bool) {
	fn, ok := modelFunction(p, f.Fn)
	if !ok {
		return api.Handler{}, false
	}
	for _, h := range fn.Handlers {
		if !(h.From <= f.PC && f.PC < h.To) || fn.Locals < 0 || h.Height < 0 {
			continue
		}
		if added(fn.Locals, h.Height).Cmp(big.NewInt(int64(len(f.Slots)))) <= 0 {
			return h, true
		}
	}
	return api.Handler{}, false
}

// modelCatch is P14.8: a frame is asked; if it does not take the value, those beneath it are.
func modelCatch(p api.Program, l []api.Frame, v api.Value) ([]api.Frame, bool) {
	if len(l) == 0 {
		return nil, false
	}
	rest, last := l[:len(l)-1], l[len(l)-1]
	h, ok := modelTakes(p, last)
	if !ok {
		return modelCatch(p, rest, v)
	}
	fn, _ := modelFunction(p, last.Fn)
	var slots []api.Value
	for i := range fn.Locals + h.Height {
		slots = append(slots, last.Slots[i])
	}
	return beside(rest, api.Frame{Fn: last.Fn, PC: h.Target, Slots: append(slots, v)}), true
}

// modelReturn is P14.9.
func modelReturn(l []api.Frame, v api.Value) ([]api.Frame, bool) {
	if len(l) < 2 {
		return nil, false
	}
	out := copied(l[:len(l)-1])
	f := &out[len(out)-1]
	f.Slots = append(f.Slots, v)
	f.PC = int(uint64(f.PC) + 1)
	return out, true
}

// bothCatch holds Catch against the chapter's words, and answers what it answered.
func bothCatch(t *testing.T, p api.Program, l []api.Frame, v api.Value) ([]api.Frame, bool) {
	t.Helper()
	got, ok := Catch(p, l, v)
	if want, wok := modelCatch(p, l, v); ok != wok || !sameFrames(got, want) {
		t.Fatalf("%+v: Catch(%v, %v) = %v %v, not %v %v", p, l, v, got, ok, want, wok)
	}
	return got, ok
}

// bothReturn holds Return against the chapter's words.
func bothReturn(t *testing.T, p api.Program, l []api.Frame, v api.Value) {
	t.Helper()
	got, ok := Return(p, l, v)
	if want, wok := modelReturn(l, v); ok != wok || !sameFrames(got, want) {
		t.Fatalf("Return(%v, %v) = %v %v, not %v %v", l, v, got, ok, want, wok)
	}
}
