package base

import (
	"slices"

	"portage/api"
	"portage/heap"
	"portage/intern"
	"portage/ops"
)

// within tells whether a count is from 0 to the most that there may be.
func within(n, most int) bool { return 0 <= n && n <= most }

// short tells whether no text is longer than a text may be.
func short(l []string) bool {
	return !slices.ContainsFunc(l, func(s string) bool { return len(s) > api.MaxText })
}

// copied is a program in memory of its own.
func copied(p api.Program) api.Program {
	p.Consts, p.Funcs = slices.Clone(p.Consts), slices.Clone(p.Funcs)
	for i := range p.Funcs {
		f := &p.Funcs[i]
		f.Code, f.Handlers = slices.Clone(f.Code), slices.Clone(f.Handlers)
	}
	return p
}

// newWorld is the world of a program in a state; false: there is no such state.
func newWorld(p api.Program, budget int, s api.State) (ops.World, bool) {
	counted := within(s.Steps, api.MaxFuel) && within(s.Spent, api.MaxBudget) && within(s.Read, api.MaxInput)
	texts, unlike := intern.From(s.Texts...)
	h, right := heap.Load(budget, s.Spent, s.Objects)
	if !counted || !unlike || !short(s.Texts) || !right || !keyed(s) {
		return ops.World{}, false
	}
	for _, c := range p.Consts {
		if c.Kind == api.Text {
			texts.Add(c.Text)
		}
	}
	return ops.World{Program: p, Heap: h, Texts: texts}, true
}

// keyed tells whether each key of a state's objects is the number of one of its texts; the heap has found that none is below 0.
func keyed(s api.State) bool {
	for _, o := range s.Objects {
		for _, key := range o.Keys {
			if key >= int64(len(s.Texts)) {
				return false
			}
		}
	}
	return true
}

// constants are the values of a program's constants in its world, which has all their texts.
func constants(w ops.World) []api.Value {
	l := make([]api.Value, len(w.Program.Consts))
	for i, c := range w.Program.Consts {
		l[i] = api.Value{Kind: c.Kind, N: c.N}
		if n, ok := w.Texts.Find(c.Text); ok && c.Kind == api.Text {
			l[i].N = int64(n)
		}
	}
	return l
}
