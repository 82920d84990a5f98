package machine

import (
	"slices"

	"portage/api"
	"portage/heap"
	"portage/states"
)

// copiedFibers are fibers in memory of their own.
func copiedFibers(l []api.Fiber) []api.Fiber {
	out := make([]api.Fiber, len(l))
	for i, f := range l {
		out[i].Frames = copiedFrames(f.Frames)
	}
	return out
}

func copiedFrames(l []api.Frame) []api.Frame {
	out := make([]api.Frame, len(l))
	for i, f := range l {
		out[i] = copiedFrame(f)
	}
	return out
}

func copiedFrame(f api.Frame) api.Frame {
	return api.Frame{Fn: f.Fn, PC: f.PC, Slots: slices.Clone(f.Slots)}
}

// Top is the current fiber's last frame, and how many frames it has.
func (m *Machine) Top() (api.Frame, int) {
	if m.ended() {
		return api.Frame{}, 0
	}
	return copiedFrame(*m.top(m.current)), len(m.list[m.current].Frames)
}

// Replace puts frames in the place of the current fiber's last one.
func (m *Machine) Replace(l []api.Frame) bool {
	if m.ended() || len(l) == 0 {
		return false
	}
	f := &m.list[m.current]
	waiting := f.Frames[:len(f.Frames)-1] // right already, since they wait as they did
	if len(l) > api.MaxFrames-len(waiting) || !m.right(l) {
		return false
	}
	f.Frames = slices.Concat(waiting, copiedFrames(l))
	m.settle(false)
	return true
}

// right tells whether frames are right in the machine's state. They are asked for in a small state that stands in for it, since to look at the whole one would take long where a program has made many objects.
func (m *Machine) right(l []api.Frame) bool {
	l = copiedFrames(l)
	for _, f := range l {
		for i, v := range f.Slots {
			f.Slots[i] = m.standIn(v)
		}
	}
	p := m.World().Program
	return states.Check(p, m.facts, api.State{
		Texts:   []string{""},
		Objects: []api.Object{{Kind: api.Array}, {Kind: api.Record}, {Kind: api.Bound}, {Kind: api.Chan, Cap: 1}},
		// Another fiber is the current one, which may not be blocked.
		Fibers: []api.Fiber{begun(p), {Frames: l}},
	}) == api.OK
}

// standIn is a value that is right in the small state, which has a text and an object of each kind, just if v is right in the machine's.
func (m *Machine) standIn(v api.Value) api.Value {
	w := m.World()
	there, number := true, v.N
	switch v.Kind {
	case api.Text:
		_, there = w.Texts.At(int(v.N))
		number = 0
	case api.Array, api.Record, api.Bound, api.Chan:
		there = named(w.Heap, v)
		number = int64(v.Kind - api.Array)
	}
	if !there {
		number = -1
	}
	return api.Value{Kind: v.Kind, N: number}
}

// named tells whether a value names an object.
func named(h *heap.Heap, v api.Value) bool {
	// Its size is asked first, since the object itself would be a copy of all that lies in it; bound functions, which have none, hold little.
	if _, trap := h.Size(v); trap == 0 {
		return true
	}
	o, ok := h.Object(int(v.N))
	return ok && o.Kind == v.Kind
}
