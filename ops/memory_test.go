package ops

import (
	"reflect"
	"slices"
	"testing"

	"portage/api"
	"portage/code"
)

// R4: what is handed in is not changed, its spare room included, and not kept.
func TestArgsAreLeftAlone(t *testing.T) {
	for _, i := range instrs() {
		takes, _, _ := code.Effect(i)
		for _, v := range few() {
			m := rich(9999)
			w := m.world(t)
			room := make([]api.Value, takes+5)
			for k := range room {
				room[k] = v
			}
			if i.Op == api.OpBind {
				room[0] = named(api.Func, 2)
			}
			was := slices.Clone(room)
			both(t, w, m, i, room[:takes])
			if !slices.Equal(room, was) {
				t.Fatalf("%v changed %v to %v", i, was, room)
			}
			for k := range room {
				room[k] = named(99, 99)
			}
			if !m.holds(w) {
				t.Fatalf("%v kept what it was handed", i)
			}
		}
	}
}

// R4: the program is not changed.
func TestProgramIsLeftAlone(t *testing.T) {
	w := rich(9999).world(t)
	for _, i := range instrs() {
		for k, args := range argsFor(i) {
			if k%7 == 0 {
				Apply(w, i, args)
			}
		}
	}
	if !reflect.DeepEqual(w.Program, rich(0).p) {
		t.Error("the program is", w.Program)
	}
}

// R4: a bound function that is bound on shares nothing with the one that it came from, nor with another.
func TestBoundOnesShareNothing(t *testing.T) {
	w := bare(999)
	first, _, _ := Apply(w, opA(api.OpBind, 1), row(named(api.Func, 2), whole(1)))
	for n := range int64(5) {
		Apply(w, opA(api.OpBind, 1), row(first, whole(10+n)))
	}
	for n := range 5 {
		o, _ := w.Heap.Object(1 + n)
		if !slices.Equal(o.Items, row(whole(1), whole(int64(10+n)))) {
			t.Error(n, o.Items)
		}
	}
	if o, _ := w.Heap.Object(0); !slices.Equal(o.Items, row(whole(1))) {
		t.Error(o.Items)
	}
}

// R5: two worlds know nothing of one another, and alike ones answer alike.
func TestWorldsApart(t *testing.T) {
	a, b, quiet := rich(9999).world(t), rich(9999).world(t), rich(9999)
	c := quiet.world(t)
	for _, i := range instrs() {
		takes, _, _ := code.Effect(i)
		for _, v := range few() {
			args := make([]api.Value, takes)
			for k := range args {
				args[k] = v
			}
			if x, y := told(Apply(a, i, args)), told(Apply(b, i, args)); x != y {
				t.Fatalf("%v of %v: %s and %s", i, args, x, y)
			}
		}
	}
	if !quiet.holds(c) {
		t.Error("the third world has changed")
	}
}

// A program may have functions that no program has that is well-formed: what can't be made isn't.
func TestOddFunctions(t *testing.T) {
	m := rich(9999)
	m.p.Funcs = []api.Function{{Params: -1}, {Params: 1 << 40}, {Params: 0}}
	m.objects = []api.Object{{Kind: api.Bound, Fn: 1, Items: make([]api.Value, 4090)}, {Kind: api.Bound, Fn: 0}, {Kind: api.Bound, Fn: 1 << 40}}
	w := m.world(t)
	for n := range int64(9) {
		for _, f := range row(named(api.Func, 0), named(api.Func, 1), named(api.Func, 2), named(api.Bound, 0), named(api.Bound, 1), named(api.Bound, 2), named(api.Bound, 3)) {
			both(t, w, m, opA(api.OpBind, n), append(row(f), make([]api.Value, n)...))
		}
	}
}
