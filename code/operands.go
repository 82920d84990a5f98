package code

import (
	"math"

	"portage/api"
	"portage/wire"
)

// form is how operands of a kind are written and read behind their operation's byte.
type form struct {
	write func(w *wire.Writer, a int64)
	read  func(r *wire.Reader) int64
}

// formOf is the form of a kind's operands.
func formOf(kind int) form {
	switch kind {
	case Plain:
		return form{write: func(*wire.Writer, int64) {}, read: func(*wire.Reader) int64 { return 0 }}
	case Number:
		return form{write: (*wire.Writer).Int, read: (*wire.Reader).Int}
	}
	return form{
		write: func(w *wire.Writer, a int64) { w.Uint(uint64(a)) },
		// A number above all of int64 turns into one below 0, which is right for no kind that is read here.
		read: func(r *wire.Reader) int64 { return int64(r.Uint()) },
	}
}

// span is the numbers from least to most.
type span struct {
	least, most int64
}

// spanOf is the operands of a kind that are right; of Width there is none, as its are no row of numbers.
func spanOf(kind int) span {
	return [...]span{
		Plain:  {0, 0},
		Number: {math.MinInt64, math.MaxInt64},
		Place:  {0, api.MaxCode - 1},
		Local:  {0, api.MaxLocals - 1},
		Consts: {0, api.MaxConsts - 1},
		Funcs:  {0, api.MaxFuncs - 1},
		Count:  {0, api.MaxHeight - 1},
		Room:   {1, api.MaxCap},
	}[kind]
}

// right tells whether an operand of a kind can be right in some program.
func right(kind int, a int64) bool {
	if kind == Width {
		return a == 8 || a == 16 || a == 32
	}
	s := spanOf(kind)
	return s.least <= a && a <= s.most
}
