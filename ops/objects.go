package ops

import "portage/api"

// target is the function that a function or a bound function leads to, and the values that are bound to it; false: it leads to none.
func (w *World) target(v api.Value) (int, []api.Value, bool) {
	fn, items := int(v.N), []api.Value(nil)
	if v.Kind == api.Bound {
		o, is := w.Heap.Object(int(v.N))
		if !is || o.Kind != api.Bound {
			return 0, nil, false
		}
		fn, items = o.Fn, o.Items
	} else if v.Kind != api.Func {
		return 0, nil, false
	}
	if fn < 0 || fn >= len(w.Program.Funcs) {
		return 0, nil, false
	}
	return fn, items, true
}

// bind makes a bound function of one, bound or not, with these values more.
func (w *World) bind(f api.Value, more []api.Value) (api.Value, int, bool) {
	fn, items, is := w.target(f)
	switch {
	case !is:
		return api.Value{}, api.TrapType, true
	case len(items)+len(more) > w.Program.Funcs[fn].Params:
		return api.Value{}, api.TrapArity, true
	}
	return made(w.Heap.Bound(fn, append(items, more...)))
}

// get gives an array's item, or a text's byte.
func (w *World) get(a, b api.Value) (api.Value, int) {
	if !isInt(b) {
		return api.Value{}, api.TrapType
	}
	s, is := w.text(a)
	switch {
	case !is:
		return w.Heap.Get(a, b.N)
	case b.N < 0 || b.N >= int64(len(s)):
		return api.Value{}, api.TrapIndex
	}
	return intOf(int64(s[b.N])), 0
}

// set puts an item in an array's place.
func (w *World) set(a, b, x api.Value) (api.Value, int) {
	if !isInt(b) {
		return api.Value{}, api.TrapType
	}
	return api.Value{}, w.Heap.Set(a, b.N, x)
}

// size gives how long a text or an object is.
func (w *World) size(a api.Value) (api.Value, int) {
	if s, is := w.text(a); is {
		return intOf(int64(len(s))), 0
	}
	n, trap := w.Heap.Size(a)
	return intOf(n), trap
}

// keyed tells whether an operation has a key, which is a constant.
func keyed(op int) bool { return api.OpGetf <= op && op <= api.OpDelf }

// hasKey tells whether a constant of the program is a text.
func (w *World) hasKey(a int64) bool {
	l := w.Program.Consts
	return 0 <= a && a < int64(len(l)) && l[a].Kind == api.Text
}

// keyOf is the number of a text, by which records know it; one that no record has, if the world has no such text.
func (w *World) keyOf(text string) int64 {
	if n, is := w.Texts.Find(text); is {
		return int64(n)
	}
	return -1
}

// setField puts a field in. The text of a new key comes into the world only once the field is there, under the number that it was put in with.
func (w *World) setField(v api.Value, key string, x api.Value) (int, bool) {
	n, is := w.Texts.Find(key)
	if !is {
		n = w.Texts.Len()
	}
	trap, room := w.Heap.SetField(v, int64(n), x)
	if trap == 0 && room && !is {
		w.Texts.Add(key)
	}
	return trap, room
}
