package states

import (
	"portage/api"
	"portage/code"
	"portage/heap"
	"portage/intern"
	"portage/real"
)

// checker asks whether a state is one of a program with these facts.
type checker struct {
	p api.Program
	f api.Facts
	s api.State
}

func (c *checker) counts() bool {
	return 0 <= c.s.Steps && c.s.Steps <= api.MaxFuel &&
		0 <= c.s.Spent && c.s.Spent <= api.MaxBudget &&
		0 <= c.s.Read && c.s.Read <= api.MaxInput
}

// current tells whether the fiber that runs is there and can run.
func (c *checker) current() bool {
	return within(c.s.Current, len(c.s.Fibers)) && !Blocked(c.p, c.s, c.s.Current)
}

// texts tells whether no text is too long and no two are alike.
func (c *checker) texts() bool {
	for _, t := range c.s.Texts {
		if len(t) > api.MaxText {
			return false
		}
	}
	_, unlike := intern.From(c.s.Texts...)
	return unlike
}

// objects tells whether each object is right: as the heap has it, and in what it names of the program and of the texts, of which the heap knows nothing.
func (c *checker) objects() bool {
	if _, ok := heap.Load(0, 0, c.s.Objects); !ok {
		return false
	}
	for _, o := range c.s.Objects {
		if !c.values(o.Items) || !c.keys(o.Keys) || o.Kind == api.Bound && !c.bound(o) {
			return false
		}
	}
	return true
}

// keys tells whether each key names a text; only records have any, where the heap has found all right.
func (c *checker) keys(l []int64) bool {
	for _, key := range l {
		if !names(&c.s, keyValue(key)) {
			return false
		}
	}
	return true
}

// bound tells whether a bound function is one of the program's, with no more values than it has parameters.
func (c *checker) bound(o api.Object) bool {
	return within(o.Fn, len(c.p.Funcs)) && len(o.Items) <= c.p.Funcs[o.Fn].Params
}

func (c *checker) values(l []api.Value) bool {
	for _, v := range l {
		if !c.value(v) {
			return false
		}
	}
	return true
}

// value tells whether a value is right in the state.
func (c *checker) value(v api.Value) bool {
	switch v.Kind {
	case api.Nil:
		return v.N == 0
	case api.Bool:
		return v.N == 0 || v.N == 1
	case api.Int:
		return true
	case api.Real:
		return real.Canon(uint64(v.N)) == uint64(v.N)
	case api.Func:
		return 0 <= v.N && v.N < int64(len(c.p.Funcs))
	}
	return names(&c.s, v)
}

// fibers tells whether there are as many as there may be, and each has ended or has right frames; the first has not ended.
func (c *checker) fibers() bool {
	n := len(c.s.Fibers)
	if n < 1 || n > api.MaxFibers || len(c.s.Fibers[0].Frames) == 0 {
		return false
	}
	for i := range n {
		if !c.frames(c.s.Fibers[i].Frames) {
			return false
		}
	}
	return true
}

// frames tells whether frames are right, or there are none.
func (c *checker) frames(l []api.Frame) bool {
	if len(l) > api.MaxFrames {
		return false
	}
	for i := range len(l) {
		n, ok := c.slots(l[i], i < len(l)-1)
		if !ok || len(l[i].Slots) != n || !c.values(l[i].Slots) {
			return false
		}
	}
	return true
}

// slots is how many slots a frame has at its place; false: there is no such place, or a frame can't wait there.
func (c *checker) slots(f api.Frame, waits bool) (int, bool) {
	i, ok := next(c.p, f)
	if !ok || !within(f.Fn, len(c.f.Heights)) || !within(f.PC, len(c.f.Heights[f.Fn])) {
		return 0, false
	}
	n := c.p.Funcs[f.Fn].Locals + c.f.Heights[f.Fn][f.PC]
	if !waits {
		return n, true
	}
	takes, _, ok := code.Effect(i)
	return n - takes, ok && i.Op == api.OpCall
}
