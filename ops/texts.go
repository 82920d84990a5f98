package ops

import (
	"portage/api"
	"portage/decimal"
	"portage/real"
)

// text is the bytes of a value that is a text; false: it is none.
func (w *World) text(v api.Value) (string, bool) {
	if v.Kind != api.Text {
		return "", false
	}
	return w.Texts.At(int(v.N))
}

// give pays for a text, and makes it one of the world; false: no room.
func (w *World) give(s string) (api.Value, int, bool) {
	if !w.Heap.Spend(1 + len(s)) {
		return api.Value{}, 0, false
	}
	return api.Value{Kind: api.Text, N: int64(w.Texts.Add(s))}, 0, true
}

// cat gives a's bytes and then b's.
func (w *World) cat(a, b api.Value) (api.Value, int, bool) {
	s, first := w.text(a)
	t, second := w.text(b)
	switch {
	case !first || !second:
		return api.Value{}, api.TrapType, true
	case len(s)+len(t) > api.MaxText:
		return api.Value{}, api.TrapRange, true
	}
	return w.give(s + t)
}

// cut gives a's bytes from one place up to another.
func (w *World) cut(a, from, to api.Value) (api.Value, int, bool) {
	s, is := w.text(a)
	switch {
	case !is || !isInt(from) || !isInt(to):
		return api.Value{}, api.TrapType, true
	case from.N < 0 || from.N > to.N || to.N > int64(len(s)):
		return api.Value{}, api.TrapIndex, true
	}
	return w.give(s[from.N:to.N])
}

// order does lt and le, of two numbers or of two texts.
func (w *World) order(i api.Instr, args []api.Value) (api.Value, int) {
	a, first := w.text(args[0])
	b, second := w.text(args[1])
	switch {
	case !first || !second:
		return reckon(i, args)
	case i.Op == api.OpLt:
		return boolOf(a < b), 0
	}
	return boolOf(a <= b), 0
}

// toInt gives a value as a whole number.
func (w *World) toInt(v api.Value) (api.Value, int) {
	switch v.Kind {
	case api.Int:
		return v, 0
	case api.Bool:
		if Truth(v) {
			return intOf(1), 0
		}
		return intOf(0), 0
	case api.Real:
		n, is := real.ToInt(uint64(v.N))
		if !is {
			return api.Value{}, api.TrapRange
		}
		return intOf(n), 0
	}
	s, is := w.text(v)
	if !is {
		return api.Value{}, api.TrapType
	}
	n, err := decimal.ParseInt(s)
	if err != api.OK {
		return api.Value{}, api.TrapForm
	}
	return intOf(n), 0
}

// toReal gives a value as a real number.
func (w *World) toReal(v api.Value) (api.Value, int) {
	switch v.Kind {
	case api.Int:
		return realOf(real.FromInt(v.N)), 0
	case api.Real:
		return v, 0
	}
	s, is := w.text(v)
	if !is {
		return api.Value{}, api.TrapType
	}
	bits, err := decimal.ParseReal(s)
	if err != api.OK {
		return api.Value{}, api.TrapForm
	}
	return realOf(bits), 0
}

// inside is what stands in the brackets of the text of a function or an object; nothing, if the value names none.
func (w *World) inside(v api.Value) string {
	if fn, _, is := w.target(v); is {
		return w.Program.Funcs[fn].Name
	}
	n, trap := w.Heap.Size(v)
	if trap != 0 {
		return ""
	}
	return decimal.Int(n)
}
