package frames

import (
	"math"
	"math/rand"
	"reflect"
	"slices"
	"testing"

	"portage/api"
	"portage/heap"
)

func num(n int64) api.Value { return api.Value{Kind: api.Int, N: n} }

func named(kind int, n int64) api.Value { return api.Value{Kind: kind, N: n} }

func nums(l ...int64) []api.Value {
	var out []api.Value
	for _, n := range l {
		out = append(out, num(n))
	}
	return out
}

// edges are whole numbers about which sums and places turn.
func edges() []int {
	return []int{math.MinInt, math.MinInt + 1, math.MinInt + 2, math.MinInt + 3, -2, -1, 0, 1, 2, 3, 4, 64, 65, 1 << 32, math.MaxInt - 2, math.MaxInt - 1, math.MaxInt}
}

// example is the program of the chapter's examples.
func example() api.Program {
	return api.Program{Funcs: []api.Function{
		{Name: "main", Locals: 1},
		{Name: "f", Params: 2, Locals: 3, Handlers: []api.Handler{{From: 0, To: 4, Target: 7, Height: 1}, {From: 2, To: 6, Target: 9}}},
	}}
}

// exampleHeap is the heap of the chapter's examples.
func exampleHeap(t *testing.T) *heap.Heap {
	t.Helper()
	h := heap.New(100, 0)
	if v, ok := h.Bound(1, nums(5)); !ok || v != named(api.Bound, 0) {
		t.Fatal("Bound", v, ok)
	}
	return h
}

// sameFrame holds two frames against each other; nil and no slots are alike.
func sameFrame(a, b api.Frame) bool {
	return a.Fn == b.Fn && a.PC == b.PC && slices.Equal(a.Slots, b.Slots)
}

func sameFrames(a, b []api.Frame) bool {
	return slices.EqualFunc(a, b, sameFrame)
}

// copied are frames in memory of their own.
func copied(l []api.Frame) []api.Frame {
	out := make([]api.Frame, len(l))
	for i, f := range l {
		out[i] = api.Frame{Fn: f.Fn, PC: f.PC, Slots: append([]api.Value{}, f.Slots...)}
	}
	return out
}

// beside is two lists of frames behind one another, in memory of their own.
func beside(l []api.Frame, more ...api.Frame) []api.Frame {
	return append(copied(l), copied(more)...)
}

func sameProgram(a, b api.Program) bool { return reflect.DeepEqual(a, b) }

// drawnProgram is a program by chance, that need not be right: its functions have small numbers, and now and then odd ones.
func drawnProgram(r *rand.Rand) api.Program {
	small := func(n int) int {
		if r.Intn(30) == 0 {
			return edges()[r.Intn(len(edges()))]
		}
		return r.Intn(n)
	}
	var p api.Program
	for range 1 + r.Intn(5) {
		f := api.Function{Params: small(3), Locals: small(4)}
		for range r.Intn(6) {
			from := small(6)
			f.Handlers = append(f.Handlers, api.Handler{From: from, To: from + small(5), Target: small(9), Height: small(3)})
		}
		p.Funcs = append(p.Funcs, f)
	}
	return p
}

// drawnFrames are up to n frames by chance: mostly of functions of the program, at places that handlers may hold.
func drawnFrames(r *rand.Rand, n int) []api.Frame {
	var l []api.Frame
	for range r.Intn(n + 1) {
		f := api.Frame{Fn: r.Intn(6) - 1, PC: r.Intn(10) - 1}
		if r.Intn(30) == 0 {
			f.Fn = edges()[r.Intn(len(edges()))]
		}
		if r.Intn(30) == 0 {
			f.PC = edges()[r.Intn(len(edges()))]
		}
		for range r.Intn(8) {
			f.Slots = append(f.Slots, drawnValue(r))
		}
		l = append(l, f)
	}
	return l
}

// drawnValue is a value by chance, right or not.
func drawnValue(r *rand.Rand) api.Value {
	return named(r.Intn(12)-1, int64(r.Intn(9)-2))
}
