package frames

import (
	"math"
	"math/rand"
	"slices"
	"testing"

	"portage/api"
	"portage/heap"
)

// The chapter's examples of calls.
func TestCallExamples(t *testing.T) {
	p, h := example(), exampleHeap(t)
	for _, c := range []struct {
		v     api.Value
		n, fn int
		bound []api.Value
		trap  int
	}{
		{named(api.Func, 1), 2, 1, nil, 0},
		{named(api.Func, 1), 1, 0, nil, api.TrapArity},
		{named(api.Func, 2), 0, 0, nil, api.TrapType},
		{named(api.Bound, 0), 1, 1, nums(5), 0},
		{named(api.Bound, 0), 2, 0, nil, api.TrapArity},
		{named(api.Array, 0), 1, 0, nil, api.TrapType},
	} {
		if fn, l, trap := Callee(p, h, c.v, c.n); fn != c.fn || !slices.Equal(l, c.bound) || trap != c.trap {
			t.Errorf("Callee(%v, %d) = %d %v %d", c.v, c.n, fn, l, trap)
		}
	}
	f, ok := Enter(p, 1, nums(8, 9))
	if !ok || !sameFrame(f, api.Frame{Fn: 1, Slots: append(nums(8, 9), api.Value{})}) {
		t.Error("Enter", f, ok)
	}
	if f, ok := Enter(p, 1, nums(8)); ok || !sameFrame(f, api.Frame{}) {
		t.Error("Enter with one", f, ok)
	}
	if f, ok := Enter(p, 2, nil); ok || !sameFrame(f, api.Frame{}) {
		t.Error("Enter of function 2", f, ok)
	}
}

// bothCallee holds Callee against the chapter's words.
func bothCallee(t *testing.T, p api.Program, h *heap.Heap, v api.Value, n int) {
	t.Helper()
	fn, l, trap := Callee(p, h, v, n)
	wfn, wl, wtrap := modelCallee(p, h, v, n)
	if fn != wfn || !slices.Equal(l, wl) || trap != wtrap {
		t.Fatalf("Callee(%v, %d) = %d %v %d, not %d %v %d", v, n, fn, l, trap, wfn, wl, wtrap)
	}
}

// mixed is a heap of objects of all kinds, with bound functions of which some are none of the program's.
func mixed(t *testing.T) *heap.Heap {
	t.Helper()
	h := heap.New(100000, 0)
	h.Array(nums(1, 2))
	h.Bound(0, nil)
	h.Record()
	for n := range 4 {
		for _, fn := range []int{0, 1, 2, 3, 4, 1 << 32, math.MaxInt} {
			if _, ok := h.Bound(fn, nums(5, 6, 7)[:n]); !ok {
				t.Fatal("Bound")
			}
		}
	}
	h.Chan(1)
	h.Bound(2, make([]api.Value, 4096))
	return h
}

// P14.6: values of all kinds and numbers, right or not, with all numbers of arguments.
func TestCalleeOfAll(t *testing.T) {
	h := mixed(t)
	p := api.Program{Funcs: []api.Function{{Params: 0}, {Params: 1}, {Params: 3}, {Params: 4096}}}
	for kind := -2; kind <= 12; kind++ {
		for n := -3; n <= 5; n++ {
			for i := -2; i <= h.Len()+2; i++ {
				bothCallee(t, p, h, named(kind, int64(i)), n)
			}
			for _, i := range edges() {
				bothCallee(t, p, h, named(kind, int64(i)), n)
				bothCallee(t, p, h, named(kind, 1<<32), i)
				bothCallee(t, p, h, named(kind, 1), i)
			}
		}
	}
	for n := 4090; n < 4100; n++ {
		bothCallee(t, p, h, named(api.Func, 3), n)
	}
}

// P14.6: parameters and arguments at the edges of all ints: no sum wraps.
func TestCalleeAtTheEdges(t *testing.T) {
	h := mixed(t)
	for _, params := range edges() {
		p := api.Program{Funcs: []api.Function{{Params: params}, {Params: params}}}
		for _, n := range append(edges(), params, params-1, params-2, params-3, params+1) {
			for i := range int64(h.Len()) {
				bothCallee(t, p, h, named(api.Bound, i), n)
			}
			bothCallee(t, p, h, named(api.Func, 1), n)
		}
	}
}

// P14.6: a program without functions calls nothing; a trap of the kind comes ahead of one of the number.
func TestCalleeOfNoProgram(t *testing.T) {
	h := mixed(t)
	for kind := -1; kind <= 10; kind++ {
		for n := int64(-1); n < 12; n++ {
			for args := -1; args < 2; args++ {
				if fn, l, trap := Callee(api.Program{}, h, named(kind, n), args); fn != 0 || len(l) != 0 || trap != api.TrapType {
					t.Errorf("Callee(%d %d, %d) = %d %v %d", kind, n, args, fn, l, trap)
				}
			}
		}
	}
}

// P14.6: nothing is spent or made.
func TestCalleeLeavesTheHeap(t *testing.T) {
	h := mixed(t)
	spent, n := h.Spent(), h.Len()
	Callee(example(), h, named(api.Bound, 3), 0)
	Callee(example(), h, named(api.Bound, 4), 2)
	if h.Spent() != spent || h.Len() != n {
		t.Error(h.Spent(), h.Len())
	}
}

// bothEnter holds Enter against the chapter's words.
func bothEnter(t *testing.T, p api.Program, fn int, args []api.Value) {
	t.Helper()
	f, ok := Enter(p, fn, args)
	if want, wok := modelEnter(p, fn, args); ok != wok || !sameFrame(f, want) {
		t.Fatalf("%+v: Enter(%d, %v) = %v %v, not %v %v", p, fn, args, f, ok, want, wok)
	}
}

// P14.7: all parameters, locals and arguments about the edges.
func TestEnterOfAll(t *testing.T) {
	args := make([]api.Value, 70)
	for i := range args {
		args[i] = num(int64(100 + i))
	}
	counts := append(edges(), 5, 62, 63, 66, 67, 70)
	for _, params := range counts {
		for _, locals := range counts {
			p := api.Program{Funcs: []api.Function{{Params: 1, Locals: 1}, {Params: params, Locals: locals}}}
			for n := range args {
				bothEnter(t, p, 1, args[:n])
			}
			for _, fn := range edges() {
				bothEnter(t, p, fn, args[:max(0, min(params, 70))])
				bothEnter(t, p, fn, args[:1])
			}
		}
	}
}

// P14.7: arguments are laid in as they are, right or not, and nothing else of the function is looked at.
func TestEnterLooksAtNothingElse(t *testing.T) {
	r := rand.New(rand.NewSource(2))
	for range 2000 {
		p := drawnProgram(r)
		var args []api.Value
		for range r.Intn(4) {
			args = append(args, drawnValue(r))
		}
		for fn := -1; fn < len(p.Funcs)+1; fn++ {
			bothEnter(t, p, fn, args)
		}
	}
}
