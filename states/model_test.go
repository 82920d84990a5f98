package states

import (
	"math"
	"math/big"
	"slices"

	"portage/api"
)

// The chapter's words, as plainly and as slowly as they stand there.

// namesText tells whether a value names a text of s.
func namesText(s api.State, v api.Value) bool {
	return v.Kind == api.Text && v.N >= 0 && v.N <= int64(len(s.Texts))-1
}

// namesObject tells whether a value names an object of s.
func namesObject(s api.State, v api.Value) bool {
	for k, o := range s.Objects {
		if v.N == int64(k) && v.Kind == o.Kind && slices.Contains([]int{api.Array, api.Record, api.Bound, api.Chan}, v.Kind) {
			return true
		}
	}
	return false
}

// rightValue is P15.1's right value.
func rightValue(p api.Program, s api.State, v api.Value) bool {
	switch v.Kind {
	case api.Nil, api.Bool:
		return v.N >= 0 && v.N <= int64(v.Kind)
	case api.Int:
		return true
	case api.Real:
		return !math.IsNaN(math.Float64frombits(uint64(v.N))) || v.N == 0x7FF8000000000000
	case api.Text:
		return namesText(s, v)
	case api.Func:
		return v.N >= 0 && v.N <= int64(len(p.Funcs))-1
	}
	return namesObject(s, v)
}

func rightValues(p api.Program, s api.State, l []api.Value) bool {
	return !slices.ContainsFunc(l, func(v api.Value) bool { return !rightValue(p, s, v) })
}

// rightObject is P15.1's right object.
func rightObject(p api.Program, s api.State, o api.Object) bool {
	if !rightValues(p, s, o.Items) {
		return false
	}
	only := func(x api.Object) bool {
		return o.Fn == x.Fn && o.Cap == x.Cap && o.Shut == x.Shut && slices.Equal(o.Keys, x.Keys)
	}
	switch o.Kind {
	case api.Array:
		return len(o.Items) <= 4096 && only(api.Object{})
	case api.Record:
		for i, key := range o.Keys {
			if slices.Index(o.Keys, key) != i || !namesText(s, txt(key)) {
				return false
			}
		}
		return len(o.Items) == len(o.Keys) && len(o.Keys) <= 256 && only(api.Object{Keys: o.Keys})
	case api.Bound:
		return o.Fn >= 0 && o.Fn < len(p.Funcs) && len(o.Items) <= p.Funcs[o.Fn].Params && only(api.Object{Fn: o.Fn})
	case api.Chan:
		return o.Cap >= 1 && o.Cap <= 64 && len(o.Items) <= o.Cap && only(api.Object{Cap: o.Cap, Shut: o.Shut})
	}
	return false
}

// rightFrames is what the chapter calls so; the sums are of numbers without end.
func rightFrames(p api.Program, f api.Facts, s api.State, l []api.Frame) bool {
	for i, fr := range l {
		if fr.Fn < 0 || fr.Fn >= len(p.Funcs) || fr.PC < 0 || fr.PC >= len(p.Funcs[fr.Fn].Code) || !rightValues(p, s, fr.Slots) {
			return false
		}
		fn := p.Funcs[fr.Fn]
		want := new(big.Int).Add(big.NewInt(int64(fn.Locals)), big.NewInt(int64(f.Heights[fr.Fn][fr.PC])))
		if i < len(l)-1 {
			if fn.Code[fr.PC].Op != api.OpCall {
				return false
			}
			want.Sub(want, big.NewInt(fn.Code[fr.PC].A))
			want.Sub(want, big.NewInt(1))
		}
		if want.Cmp(big.NewInt(int64(len(fr.Slots)))) != 0 {
			return false
		}
	}
	return len(l) >= 1 && len(l) <= 100
}

// isState is P15.1, for a verified program and its facts.
func isState(p api.Program, f api.Facts, s api.State) bool {
	for i, text := range s.Texts {
		if len(text) > 4096 || slices.Index(s.Texts, text) != i {
			return false
		}
	}
	for _, o := range s.Objects {
		if !rightObject(p, s, o) {
			return false
		}
	}
	for _, fb := range s.Fibers {
		if len(fb.Frames) > 0 && !rightFrames(p, f, s, fb.Frames) {
			return false
		}
	}
	return len(s.Fibers) >= 1 && len(s.Fibers) <= 32 && len(s.Fibers[0].Frames) > 0 &&
		s.Current >= 0 && s.Current < len(s.Fibers) && len(s.Fibers[s.Current].Frames) > 0 && !waits(p, s, s.Current) &&
		s.Steps >= 0 && s.Steps <= 1<<24 && s.Spent >= 0 && s.Spent <= 1<<20 && s.Read >= 0 && s.Read <= 1000
}

// nextOf is a fiber's next instruction, and its last frame's slots.
func nextOf(p api.Program, s api.State, k int) (i api.Instr, slots []api.Value, ok bool) {
	for n, fb := range s.Fibers {
		for m, fr := range fb.Frames {
			for fn, f := range p.Funcs {
				for pc, in := range f.Code {
					if n == k && m == len(fb.Frames)-1 && fn == fr.Fn && pc == fr.PC {
						return in, fr.Slots, true
					}
				}
			}
		}
	}
	return api.Instr{}, nil, false
}

// waits is P15.4's Blocked.
func waits(p api.Program, s api.State, k int) bool {
	for n, fb := range s.Fibers {
		if n == k && len(fb.Frames) == 0 {
			return true
		}
	}
	i, slots, ok := nextOf(p, s, k)
	for n := range slots {
		v := slots[len(slots)-1-n]
		if !ok || v.Kind != api.Chan || !namesObject(s, v) || s.Objects[v.N].Shut {
			continue
		}
		o := s.Objects[v.N]
		if i.Op == api.OpSend && n == 1 && len(o.Items) >= o.Cap || i.Op == api.OpRecv && n == 0 && len(o.Items) == 0 {
			return true
		}
	}
	return false
}

// safe is P15.4's Safe.
func safe(p api.Program, s api.State) bool {
	i, _, ok := nextOf(p, s, s.Current)
	if !ok {
		return false
	}
	l := s.Fibers[s.Current].Frames
	jumps := i.Op == api.OpJump || i.Op == api.OpJz || i.Op == api.OpJnz
	return i.Op == api.OpCall || jumps && i.A <= int64(l[len(l)-1].PC)
}

// inside are an object's values and keys, in the order in which they are gone through.
func inside(o api.Object) []api.Value {
	if o.Kind != api.Record {
		return o.Items
	}
	var l []api.Value
	keys, items := o.Keys, o.Items
	for len(keys) > 0 || len(items) > 0 {
		if len(keys) > 0 {
			l, keys = append(l, txt(keys[0])), keys[1:]
		}
		if len(items) > 0 {
			l, items = append(l, items[0]), items[1:]
		}
	}
	return l
}

// slotsOf are all slots of a state, in the order in which they are gone through.
func slotsOf(s api.State) []api.Value {
	var l []api.Value
	for _, fb := range s.Fibers {
		for _, fr := range fb.Frames {
			l = append(l, fr.Slots...)
		}
	}
	return l
}

// metIn are the old numbers of texts and objects, each at its new one.
func metIn(s api.State) (texts, objects []int64) {
	look := func(l []api.Value) {
		for _, v := range l {
			if namesText(s, v) && !slices.Contains(texts, v.N) {
				texts = append(texts, v.N)
			}
			if namesObject(s, v) && !slices.Contains(objects, v.N) {
				objects = append(objects, v.N)
			}
		}
	}
	look(slotsOf(s))
	for k := 0; k < len(objects); k++ {
		look(inside(s.Objects[objects[k]]))
	}
	return texts, objects
}

// canon is P15.2's Canon.
func canon(s api.State) api.State {
	texts, objects := metIn(s)
	out := copied(s)
	out.Texts, out.Objects = nil, nil
	for _, n := range texts {
		out.Texts = append(out.Texts, s.Texts[n])
	}
	was := copied(s)
	for _, n := range objects {
		out.Objects = append(out.Objects, was.Objects[n])
	}
	for _, l := range valueLists(&out) {
		for i, v := range l {
			if namesText(s, v) {
				l[i].N = int64(slices.Index(texts, v.N))
			} else if namesObject(s, v) {
				l[i].N = int64(slices.Index(objects, v.N))
			}
		}
	}
	for _, o := range out.Objects {
		for i, key := range o.Keys {
			if o.Kind == api.Record && namesText(s, txt(key)) {
				o.Keys[i] = int64(slices.Index(texts, key))
			}
		}
	}
	return out
}

// equal holds two states against each other, number by number; no list and an empty one are alike.
func equal(a, b api.State) bool {
	frames := func(a, b api.Frame) bool {
		return a.Fn == b.Fn && a.PC == b.PC && slices.Equal(a.Slots, b.Slots)
	}
	fibers := func(a, b api.Fiber) bool { return slices.EqualFunc(a.Frames, b.Frames, frames) }
	objects := func(a, b api.Object) bool {
		return a.Kind == b.Kind && a.Fn == b.Fn && a.Cap == b.Cap && a.Shut == b.Shut && slices.Equal(a.Items, b.Items) && slices.Equal(a.Keys, b.Keys)
	}
	return a.Current == b.Current && a.Steps == b.Steps && a.Spent == b.Spent && a.Read == b.Read &&
		slices.Equal(a.Texts, b.Texts) && slices.EqualFunc(a.Objects, b.Objects, objects) && slices.EqualFunc(a.Fibers, b.Fibers, fibers)
}

// pair is what is met on both sides at the same time.
type pair struct {
	a, b api.Value
}

// sideBySide is P15.7, of two states that Check takes.
func sideBySide(a, b api.State) bool {
	shape := func(s api.State) (l []int) {
		l = append(l, s.Current, s.Steps, s.Spent, s.Read, len(s.Fibers))
		for _, fb := range s.Fibers {
			l = append(l, len(fb.Frames))
			for _, fr := range fb.Frames {
				l = append(l, fr.Fn, fr.PC, len(fr.Slots))
			}
		}
		return l
	}
	if !slices.Equal(shape(a), shape(b)) {
		return false
	}
	var left []pair
	for i, v := range slotsOf(a) {
		left = append(left, pair{v, slotsOf(b)[i]})
	}
	var met []pair
	for len(left) > 0 {
		x := left[0]
		left = left[1:]
		if slices.Contains(met, x) {
			continue
		}
		if !agree(a, b, x, met) {
			return false
		}
		met = append(met, x)
		if namesObject(a, x.a) {
			other := inside(b.Objects[x.b.N])
			for i, v := range inside(a.Objects[x.a.N]) {
				left = append(left, pair{v, other[i]})
			}
		}
	}
	return true
}

// agree tells whether two values met together differ in nothing but their numbers, and neither was met with another one.
func agree(a, b api.State, x pair, met []pair) bool {
	if x.a.Kind != x.b.Kind {
		return false
	}
	text, object := namesText(a, x.a), namesObject(a, x.a)
	if !text && !object {
		return x.a == x.b
	}
	if text && a.Texts[x.a.N] != b.Texts[x.b.N] {
		return false
	}
	if object {
		o, u := a.Objects[x.a.N], b.Objects[x.b.N]
		if o.Kind != u.Kind || o.Fn != u.Fn || o.Cap != u.Cap || o.Shut != u.Shut || len(o.Items) != len(u.Items) || len(o.Keys) != len(u.Keys) {
			return false
		}
	}
	return !slices.ContainsFunc(met, func(y pair) bool { return y.a == x.a || y.b == x.b })
}
