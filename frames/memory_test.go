package frames

import (
	"math/rand"
	"runtime"
	"slices"
	"testing"
	"weak"

	"portage/api"
)

// scrawl writes over a list and its spare room.
func scrawl[T any](l []T, t T) {
	l = l[:cap(l)]
	for i := range l {
		l[i] = t
	}
}

// R4: lists that are laid into a stack aren't kept and aren't changed, their spare room included.
func TestStackKeepsNoList(t *testing.T) {
	for n := range 5 {
		l, more := []int{1, 2, 3, 4, 5, 6}, []int{11, 12, 13, 14, 15, 16}
		s, m := NewStack(l[:n]...), &model[int]{[]int{1, 2, 3, 4, 5, 6}[:n:n]}
		s.Push(more[:n]...)
		s.Push(7)
		s.Pop(1)
		s.Cut(n)
		s.Push(8, 9)
		if !slices.Equal(l, []int{1, 2, 3, 4, 5, 6}) || !slices.Equal(more, []int{11, 12, 13, 14, 15, 16}) {
			t.Error("the lists became", l, more)
		}
		scrawl(l, 50)
		scrawl(more, 50)
		m.push(8, 9)
		alike(t, s, m)
	}
}

// R4: what a stack answers is the asker's own, its spare room included, and what is laid upon an answer is not laid into the stack.
func TestStackAnswersNewMemory(t *testing.T) {
	for n := range 6 {
		for k := range n + 1 {
			s := NewStack(1, 2, 3, 4, 5, 6, 7, 8)
			s.Cut(n)
			want := []int{1, 2, 3, 4, 5}[:n]
			a, b := s.Items(), s.Items()
			scrawl(append(a, 60), 50)
			scrawl(a, 50)
			if !slices.Equal(b, want) || !slices.Equal(s.Items(), want) {
				t.Fatal("two answers share memory:", b, s.Items())
			}
			popped, _ := s.Pop(k)
			s.Push(70, 71, 72, 73, 74, 75)
			if !slices.Equal(popped, want[n-k:]) || !slices.Equal(b, want) {
				t.Fatal("an answer became", popped, b)
			}
			scrawl(append(popped, 60), 50)
			scrawl(popped, 50)
			alike(t, s, &model[int]{append(slices.Clone(want[:n-k]), 70, 71, 72, 73, 74, 75)})
			if !slices.Equal(b, want) {
				t.Fatal("an answer became", b)
			}
		}
	}
}

// A stack does not hold on to what was taken away.
func TestStackForgets(t *testing.T) {
	s := NewStack(new([64]int), new([64]int), new([64]int))
	var l []weak.Pointer[[64]int]
	for _, x := range s.Items() {
		l = append(l, weak.Make(x))
	}
	s.Pop(1)
	s.Cut(1)
	runtime.GC()
	for i, want := range []bool{true, false, false} {
		if (l[i].Value() != nil) != want {
			t.Errorf("thing %d is held: %v", i, !want)
		}
	}
	runtime.KeepAlive(s)
}

// R4: the bound values that Callee tells are the asker's own.
func TestCalleeAnswersNewMemory(t *testing.T) {
	p, h := example(), exampleHeap(t)
	_, a, _ := Callee(p, h, named(api.Bound, 0), 1)
	_, b, _ := Callee(p, h, named(api.Bound, 0), 1)
	scrawl(append(a, num(60)), num(50))
	scrawl(a, num(50))
	o, _ := h.Object(0)
	if !slices.Equal(b, nums(5)) || !slices.Equal(o.Items, nums(5)) {
		t.Error("shared:", b, o.Items)
	}
}

// R4: arguments of Enter aren't kept and aren't changed, their spare room included, and the slots are the asker's own.
func TestEnterAnswersNewMemory(t *testing.T) {
	for locals := range 5 {
		for params := range locals + 1 {
			p := api.Program{Funcs: []api.Function{{Params: params, Locals: locals}}}
			room := nums(1, 2, 3, 4, 5, 6)
			f, ok := Enter(p, 0, room[:params])
			g, _ := Enter(p, 0, room[:params])
			if !ok || !slices.Equal(room, nums(1, 2, 3, 4, 5, 6)) {
				t.Fatal("the arguments became", room, ok)
			}
			want := append(nums(1, 2, 3, 4)[:params:params], make([]api.Value, locals-params)...)
			scrawl(room, num(50))
			scrawl(g.Slots, num(51))
			if !slices.Equal(f.Slots, want) {
				t.Error("the slots became", f.Slots)
			}
			scrawl(f.Slots, num(52))
			if slices.Contains(room, num(52)) {
				t.Error("the slots lie in the arguments")
			}
		}
	}
}

// roomy is a copy of frames, the list and each frame's slots with room behind them in which something stands.
func roomy(l []api.Frame) []api.Frame {
	out := append([]api.Frame{}, l...)
	for i, f := range out {
		slots := append([]api.Value{}, f.Slots...)
		out[i].Slots = append(slots, nums(-1, -2, -3)...)[:len(f.Slots)]
	}
	return append(out, api.Frame{Fn: -3, Slots: nums(-4)})[:len(l)]
}

// whole are frames with all that lies in their room.
func whole(l []api.Frame) []api.Frame {
	var out []api.Frame
	for _, f := range l[:cap(l)] {
		out = append(out, api.Frame{Fn: f.Fn, PC: f.PC, Slots: append([]api.Value{}, f.Slots[:cap(f.Slots)]...)})
	}
	return out
}

// unwinders are the two calls that answer frames.
func unwinders(p api.Program) []func([]api.Frame, api.Value) ([]api.Frame, bool) {
	return []func([]api.Frame, api.Value) ([]api.Frame, bool){
		func(l []api.Frame, v api.Value) ([]api.Frame, bool) { return Catch(p, l, v) },
		func(l []api.Frame, v api.Value) ([]api.Frame, bool) { return Return(p, l, v) },
	}
}

// R4: frames that are handed to Catch and Return are not changed, spare room included, nor is the program; and no list of the answer lies in them, in another answer, or in another list of the answer.
func TestFramesShareNothing(t *testing.T) {
	r := rand.New(rand.NewSource(8))
	for range 4000 {
		p := drawnProgram(r)
		was := api.Program{Funcs: slices.Clone(p.Funcs)}
		for i, f := range p.Funcs {
			was.Funcs[i].Handlers = slices.Clone(f.Handlers)
		}
		l := roomy(drawnFrames(r, 5))
		before := whole(l)
		for _, call := range unwinders(p) {
			a, ok := call(l, num(9))
			b, _ := call(l, num(9))
			if !ok {
				continue
			}
			want := copied(a)
			apart(t, a)
			if !sameFrames(b, want) {
				t.Fatal("two answers share memory:", b, want)
			}
			if !sameFrames(whole(l), before) || !sameProgram(p, was) {
				t.Fatalf("what was handed in became %v, not %v", whole(l), before)
			}
		}
	}
}

// apart writes over each list of frames, its spare room too, and asks whether another has changed.
func apart(t *testing.T, l []api.Frame) {
	t.Helper()
	for i := range l {
		others := copied(l)
		scrawl(append(l[i].Slots, num(60)), num(50))
		scrawl(l[i].Slots, num(50))
		for k := range l {
			if k != i && !sameFrame(l[k], others[k]) {
				t.Fatalf("frame %d lies in the memory of frame %d", k, i)
			}
		}
	}
	scrawl(l, api.Frame{Fn: 77})
}

// R4: an answer stays as it is when what was handed in is written over.
func TestFramesAreNotKept(t *testing.T) {
	r := rand.New(rand.NewSource(9))
	for range 4000 {
		p := drawnProgram(r)
		first := drawnFrames(r, 5)
		for _, call := range unwinders(p) {
			l := roomy(first)
			a, ok := call(l, num(9))
			want := copied(a)
			for _, f := range l {
				scrawl(f.Slots, num(50))
			}
			scrawl(l, api.Frame{Fn: 77})
			if ok && !sameFrames(a, want) {
				t.Fatalf("%v became %v", want, a)
			}
		}
	}
}
