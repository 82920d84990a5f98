package states

import (
	"slices"

	"portage/api"
)

// order is what is met in a state, in the order in which it is met.
type order struct {
	texts   []string
	objects []api.Object        // as the state has them, its numbers inside
	numbers map[api.Value]int64 // of each text and object that was met its new number, by the value that names it
}

// meetAll meets all that the slots of a state lead to.
func meetAll(s api.State) *order {
	o := &order{numbers: map[api.Value]int64{}}
	meet := func(v api.Value) {
		if !names(&s, v) {
			return
		}
		if _, known := o.numbers[v]; known {
			return
		}
		if v.Kind == api.Text {
			o.numbers[v] = int64(len(o.texts))
			o.texts = append(o.texts, s.Texts[v.N])
			return
		}
		o.numbers[v] = int64(len(o.objects))
		o.objects = append(o.objects, s.Objects[v.N])
	}
	meetSlots(s.Fibers, meet)
	// The objects are a worklist too: those from i on are left to look into, and meet adds to them meanwhile.
	for i := 0; i < len(o.objects); i++ {
		meetInside(o.objects[i], meet)
	}
	return o
}

// meetSlots meets what the slots of all fibers name.
func meetSlots(l []api.Fiber, meet func(api.Value)) {
	for i := range len(l) {
		for k := range len(l[i].Frames) {
			for _, v := range l[i].Frames[k].Slots {
				meet(v)
			}
		}
	}
}

// meetInside meets what an object names: of a record each key ahead of its value.
func meetInside(b api.Object, meet func(api.Value)) {
	keys := keysOf(b)
	for i := range max(len(keys), len(b.Items)) {
		if i < len(keys) {
			meet(keyValue(keys[i]))
		}
		if i < len(b.Items) {
			meet(b.Items[i])
		}
	}
}

// keysOf are the keys of an object that are numbers of texts: a record's alone.
func keysOf(b api.Object) []int64 {
	if b.Kind != api.Record {
		return nil
	}
	return b.Keys
}

// keyValue is a key as the value that names the same text.
func keyValue(key int64) api.Value { return api.Value{Kind: api.Text, N: key} }

// value is a value with its new number, if it names something.
func (o *order) value(v api.Value) api.Value {
	if n, ok := o.numbers[v]; ok {
		v.N = n
	}
	return v
}

func (o *order) values(l []api.Value) []api.Value {
	out := make([]api.Value, len(l))
	for i := range len(l) {
		out[i] = o.value(l[i])
	}
	return out
}

// keys are an object's keys, with new numbers where they are numbers of texts.
func (o *order) keys(b api.Object) []int64 {
	out := slices.Clone(b.Keys)
	for i, key := range keysOf(b) {
		out[i] = o.value(keyValue(key)).N
	}
	return out
}

// renumbered are all objects that were met, with new numbers inside.
func (o *order) renumbered() []api.Object {
	out := slices.Clone(o.objects)
	for i := range len(out) {
		out[i].Items = o.values(out[i].Items)
		out[i].Keys = o.keys(out[i])
	}
	return out
}

// fibers are fibers in new memory, with new numbers in their slots.
func (o *order) fibers(l []api.Fiber) []api.Fiber {
	out := make([]api.Fiber, len(l))
	for i := range len(l) {
		out[i].Frames = o.frames(l[i].Frames)
	}
	return out
}

func (o *order) frames(l []api.Frame) []api.Frame {
	out := slices.Clone(l)
	for i := range len(out) {
		out[i].Slots = o.values(out[i].Slots)
	}
	return out
}
