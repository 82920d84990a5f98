package frames

import (
	"math/rand"
	"slices"
	"testing"

	"portage/api"
)

// P14.10: what is pushed is popped, and a Cut of what Len was does the same.
func TestPushedIsPopped(t *testing.T) {
	r := rand.New(rand.NewSource(4))
	for range 5000 {
		var under, l []int
		for range r.Intn(9) {
			under = append(under, r.Int())
		}
		for range r.Intn(9) {
			l = append(l, r.Int())
		}
		s, m := NewStack(under...), &model[int]{under}
		s.Push(l...)
		if got, ok := s.Pop(len(l)); !ok || !slices.Equal(got, l) {
			t.Fatalf("Push(%v) upon %v, Pop = %v %v", l, under, got, ok)
		}
		alike(t, s, m)
		n := s.Len()
		s.Push(l...)
		if !s.Cut(n) {
			t.Fatal("Cut", n)
		}
		alike(t, s, m)
	}
}

// P14.11: Catch of l and f is l and Catch of f alone, or Catch of l; frames beneath the one that takes it are as they were, whatever they are.
func TestFrameByFrame(t *testing.T) {
	r := rand.New(rand.NewSource(5))
	for range 20000 {
		p, l, v := drawnProgram(r), drawnFrames(r, 5), drawnValue(r)
		if len(l) == 0 {
			continue
		}
		rest, f := l[:len(l)-1], l[len(l)-1:]
		want, wok := Catch(p, f, v)
		if wok {
			want = beside(rest, want...)
		} else {
			want, wok = Catch(p, rest, v)
		}
		got, ok := Catch(p, l, v)
		if ok != wok || !sameFrames(got, want) {
			t.Fatalf("%+v: Catch(%v) = %v %v, not %v %v", p, l, got, ok, want, wok)
		}
		if ok && !sameFrames(got[:len(got)-1], l[:len(got)-1]) {
			t.Fatalf("Catch(%v) = %v", l, got)
		}
	}
}

// P14.12: which frame takes a value, and where, does not hang on the value.
func TestAnyValueIsTakenAlike(t *testing.T) {
	r := rand.New(rand.NewSource(6))
	for range 5000 {
		p, l := drawnProgram(r), drawnFrames(r, 5)
		v := drawnValue(r)
		a, ok := Catch(p, l, v)
		for kind := -1; kind <= 10; kind++ {
			w := named(kind, int64(r.Intn(7)-3))
			b, wok := Catch(p, l, w)
			if ok != wok || len(a) != len(b) {
				t.Fatalf("%v is taken as %v, %v as %v", v, a, w, b)
			}
			if !ok {
				continue
			}
			slots := b[len(b)-1].Slots
			if slots[len(slots)-1] != w {
				t.Fatalf("%v is not upmost in %v", w, b)
			}
			slots[len(slots)-1] = v
			if !sameFrames(a, b) {
				t.Fatalf("%v is taken as %v, %v as %v", v, a, w, b)
			}
		}
	}
}

// P14.13: what is entered returns, and leaves the value with the frame that waited.
func TestEnteredReturns(t *testing.T) {
	r := rand.New(rand.NewSource(7))
	entered := 0
	for range 20000 {
		p, l, v := drawnProgram(r), drawnFrames(r, 5), drawnValue(r)
		fn := r.Intn(5)
		var args []api.Value
		for range r.Intn(3) {
			args = append(args, drawnValue(r))
		}
		f, ok := Enter(p, fn, args)
		if !ok || len(l) == 0 {
			continue
		}
		entered++
		want := copied(l)
		last := &want[len(want)-1]
		last.PC, last.Slots = last.PC+1, append(last.Slots, v)
		if got, ok := Return(p, beside(l, f), v); !ok || !sameFrames(got, want) {
			t.Fatalf("Return of %v and %v = %v %v, not %v", l, f, got, ok, want)
		}
	}
	if entered < 1000 {
		t.Error("only", entered, "were entered")
	}
}

// P14.6, P14.7: a call that Callee takes enters, with the bound values and then the arguments, where the function is right.
func TestCalleeEnters(t *testing.T) {
	h := mixed(t)
	p := api.Program{Funcs: []api.Function{{Locals: 1}, {Params: 1, Locals: 1}, {Params: 3, Locals: 5}, {Params: 2, Locals: 64}}}
	for i := range int64(h.Len()) {
		for n := range 5 {
			args := nums(21, 22, 23, 24)[:n]
			fn, bound, trap := Callee(p, h, named(api.Bound, i), n)
			if trap != 0 {
				continue
			}
			all := append(bound, args...)
			f, ok := Enter(p, fn, all)
			if !ok || f.Fn != fn || !slices.Equal(f.Slots[:len(all)], all) || len(f.Slots) != p.Funcs[fn].Locals {
				t.Errorf("object %d with %d: %v %v", i, n, f, ok)
			}
		}
	}
}
