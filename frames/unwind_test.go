package frames

import (
	"math"
	"math/rand"
	"testing"

	"portage/api"
)

// The chapter's examples of thrown and returned values.
func TestUnwindExamples(t *testing.T) {
	p, v := example(), named(api.Bool, 1)
	main := api.Frame{Fn: 0, PC: 3, Slots: nums(1)}
	at := func(pc int, slots ...int64) []api.Frame {
		return []api.Frame{main, {Fn: 1, PC: pc, Slots: nums(slots...)}}
	}
	l, ok := Catch(p, at(2, 1, 2, 3, 4, 5), v)
	if !ok || !sameFrames(l, []api.Frame{main, {Fn: 1, PC: 7, Slots: append(nums(1, 2, 3, 4), v)}}) {
		t.Error("the first handler", l, ok)
	}
	l, ok = Catch(p, at(2, 1, 2, 3), v)
	if !ok || !sameFrames(l, []api.Frame{main, {Fn: 1, PC: 9, Slots: append(nums(1, 2, 3), v)}}) {
		t.Error("the second handler", l, ok)
	}
	if l, ok := Catch(p, at(6, 1, 2, 3, 4, 5), v); ok || len(l) != 0 {
		t.Error("no handler", l, ok)
	}
	l, ok = Return(p, at(5), v)
	if !ok || !sameFrames(l, []api.Frame{{Fn: 0, PC: 4, Slots: append(nums(1), v)}}) {
		t.Error("Return", l, ok)
	}
}

// places are a few ints, so that all of them can be tried in several roles at once.
func places() []int {
	return []int{math.MinInt, -1, 0, 1, 2, math.MaxInt - 1, math.MaxInt}
}

// P14.8: one handler at all places, with one frame at all places.
func TestCatchAtAllPlaces(t *testing.T) {
	for _, from := range places() {
		for _, to := range places() {
			for _, target := range places() {
				p := api.Program{Funcs: []api.Function{{Handlers: []api.Handler{{From: from, To: to, Target: target}}}}}
				for _, pc := range places() {
					l, ok := bothCatch(t, p, []api.Frame{{PC: pc, Slots: nums(1, 2)}}, num(9))
					if held := from <= pc && pc < to; ok != held || ok && l[0].PC != target {
						t.Fatalf("%d to %d, at %d: %v %v", from, to, pc, l, ok)
					}
				}
			}
		}
	}
}

// P14.8: all locals and heights, with all numbers of slots: no sum wraps.
func TestCatchWithAllHeights(t *testing.T) {
	for _, locals := range edges() {
		for _, height := range edges() {
			p := api.Program{Funcs: []api.Function{{Locals: locals, Handlers: []api.Handler{{To: 1, Target: 3, Height: height}, {To: 1, Target: 4, Height: height - 1}, {To: 1, Target: 5}}}}}
			for slots := range 9 {
				bothCatch(t, p, []api.Frame{{Slots: nums(1, 2, 3, 4, 5, 6, 7, 8)[:slots]}}, num(9))
			}
		}
	}
	full := make([]api.Value, 130)
	for i := range full {
		full[i] = num(int64(i))
	}
	p := api.Program{Funcs: []api.Function{{Locals: 64, Handlers: []api.Handler{{To: 1, Height: 64}}}}}
	for n := range full {
		if _, ok := bothCatch(t, p, []api.Frame{{Slots: full[:n]}}, num(9)); ok != (n >= 128) {
			t.Fatal(n, ok)
		}
	}
}

// P14.8: parameters do not count, and a frame's slots above the kept ones are gone.
func TestCatchKeepsTheLowest(t *testing.T) {
	p := api.Program{Funcs: []api.Function{{Params: 99, Locals: 1, Handlers: []api.Handler{{To: 1, Target: -5, Height: 1}}}}}
	l, ok := Catch(p, []api.Frame{{Slots: nums(1, 2, 3, 4)}}, num(9))
	if !ok || !sameFrames(l, []api.Frame{{PC: -5, Slots: nums(1, 2, 9)}}) {
		t.Error(l, ok)
	}
}

// P14.8: the first handler that takes counts, not the narrowest and not the last.
func TestFirstHandlerCounts(t *testing.T) {
	p := api.Program{Funcs: []api.Function{{Handlers: []api.Handler{
		{From: 5, To: 9, Target: 1}, {From: 0, To: 9, Target: 2, Height: 4}, {From: 0, To: 9, Target: 3, Height: 2}, {From: 1, To: 2, Target: 4}, {From: 0, To: 9, Target: 5},
	}}}}
	for slots, target := range []int{4, 4, 3, 3, 2, 2} {
		l, ok := Catch(p, []api.Frame{{PC: 1, Slots: nums(1, 2, 3, 4, 5)[:slots]}}, num(9))
		if !ok || l[0].PC != target {
			t.Errorf("with %d slots: %v %v, not %d", slots, l, ok, target)
		}
	}
}

// P14.8: no frames, frames of no function, and functions without handlers take nothing.
func TestNobodyTakes(t *testing.T) {
	p := example()
	for _, l := range [][]api.Frame{nil, {}, {{Fn: 0, Slots: nums(1)}}, {{Fn: 2, Slots: nums(1, 2, 3)}}, {{Fn: -1, Slots: nums(1, 2, 3)}}, {{Fn: math.MaxInt}, {Fn: math.MinInt}}, {{Fn: 1, PC: 2, Slots: nums(1, 2)}}} {
		if got, ok := bothCatch(t, p, l, num(9)); ok || len(got) != 0 {
			t.Error(l, got)
		}
		if got, ok := bothCatch(t, api.Program{}, l, num(9)); ok || len(got) != 0 {
			t.Error(l, got)
		}
	}
}

// P14.8: many frames go away up to the one that takes the value.
func TestCatchFarBeneath(t *testing.T) {
	p := example()
	taker := api.Frame{Fn: 1, PC: 4, Slots: nums(1, 2, 3, 4)}
	for beneath := range 5 {
		for above := range 200 {
			var l []api.Frame
			for range beneath {
				l = append(l, taker)
			}
			l = append(l, taker)
			for i := range above {
				l = append(l, api.Frame{Fn: i % 3, PC: 6 + i, Slots: nums(1, 2, 3, 4)})
			}
			got, ok := bothCatch(t, p, l, num(9))
			if !ok || len(got) != beneath+1 {
				t.Fatal(beneath, above, got, ok)
			}
		}
	}
}

// P14.8, P14.9: programs, frames and values by chance, right or not.
func TestUnwindAgainstTheModel(t *testing.T) {
	r := rand.New(rand.NewSource(3))
	taken := 0
	for range 20000 {
		p, l, v := drawnProgram(r), drawnFrames(r, 6), drawnValue(r)
		if _, ok := bothCatch(t, p, l, v); ok {
			taken++
		}
		bothReturn(t, p, l, v)
	}
	if taken < 4000 {
		t.Error("only", taken, "were taken")
	}
}

// P14.9: of all numbers of frames; the place behind the greatest one is the least; the program and what returns do not matter.
func TestReturn(t *testing.T) {
	for _, pc := range edges() {
		for n := range 6 {
			var l []api.Frame
			for i := range n {
				l = append(l, api.Frame{Fn: i - 2, PC: pc, Slots: nums(1, 2, 3, 4, 5, 6)[:i]})
			}
			bothReturn(t, example(), l, num(9))
			bothReturn(t, api.Program{}, l, named(-7, -7))
		}
	}
	l, ok := Return(api.Program{}, []api.Frame{{PC: math.MaxInt}, {}}, num(9))
	if !ok || !sameFrames(l, []api.Frame{{PC: math.MinInt, Slots: nums(9)}}) {
		t.Error(l, ok)
	}
	for _, l := range [][]api.Frame{nil, {}, {{Fn: 1, PC: 2, Slots: nums(1)}}} {
		if got, ok := Return(example(), l, num(9)); ok || len(got) != 0 {
			t.Error("of", l, got, ok)
		}
	}
}
