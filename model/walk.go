package model

import (
	"slices"

	"portage/api"
	"portage/base"
)

// Held is all that a core holds, as a state without fibers.
func Held(core *base.Core) api.State {
	w := core.World()
	s := api.State{Texts: w.Texts.Items(), Steps: core.Steps(), Spent: w.Heap.Spent(), Read: core.Read()}
	for k := range w.Heap.Len() {
		o, _ := w.Heap.Object(k)
		s.Objects = append(s.Objects, o)
	}
	return s
}

// Alike tells whether two cores hold the same, to the very numbers of their texts and objects, and printed the same.
func Alike(a, b *base.Core) bool {
	s, t := Held(a), Held(b)
	return slices.Equal(a.Out(), b.Out()) && slices.Equal(s.Texts, t.Texts) && slices.EqualFunc(s.Objects, t.Objects, sameObject) &&
		s.Steps == t.Steps && s.Spent == t.Spent && s.Read == t.Read
}

func sameObject(a, b api.Object) bool {
	return a.Kind == b.Kind && a.Fn == b.Fn && a.Cap == b.Cap && a.Shut == b.Shut && slices.Equal(a.Items, b.Items) && slices.Equal(a.Keys, b.Keys)
}

// SameFrames tells whether two rows of frames are alike, where no list and an empty one are alike.
func SameFrames(a, b []api.Frame) bool {
	return slices.EqualFunc(a, b, func(x, y api.Frame) bool {
		return x.Fn == y.Fn && x.PC == y.PC && slices.Equal(x.Slots, y.Slots)
	})
}

// Walk goes with the baseline, over a core, as many steps from a frame as register code made that was left: the frames to which it comes, and what is wrong on that way, "" if nothing: a safepoint ahead of a step at which the code should have been left, a step that is none or traps, or one of an operation that should not be on the way.
func Walk(core *base.Core, f api.Frame, stop, steps int, without ...int) ([]api.Frame, string) {
	fiber := api.Fiber{Frames: []api.Frame{{Fn: f.Fn, PC: f.PC, Slots: slices.Clone(f.Slots)}}}
	for range steps {
		if len(fiber.Frames) == 0 {
			return nil, "the baseline has returned"
		}
		last := fiber.Frames[len(fiber.Frames)-1]
		if Stops(core, api.Place{Fn: last.Fn, PC: last.PC}, stop) {
			return fiber.Frames, "a safepoint was passed by"
		}
		if op := core.World().Program.Funcs[last.Fn].Code[last.PC].Op; slices.Contains(without, op) {
			return fiber.Frames, "an operation that should not be on the way"
		}
		if e := core.Step(&fiber); e.Kind != api.EvStep || e.Trap != 0 {
			return fiber.Frames, "no step of the baseline, or one that traps"
		}
	}
	return fiber.Frames, ""
}
