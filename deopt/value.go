package deopt

import "portage/api"

// The bits of reals: a NaN's lie above those of the infinite one, whatever its sign.
const (
	noSign   = 1<<63 - 1
	infinite = 0x7FF0000000000000
	oneNaN   = 0x7FF8000000000000
)

// Value is what an operand is, over these registers and constants; false: it stands for nothing.
func Value(o api.Opnd, regs []api.Value, consts []api.Value) (api.Value, bool) {
	return source{regs, consts}.value(o)
}

// source is what operands are asked for at.
type source struct {
	regs, consts []api.Value
}

func (s source) value(o api.Opnd) (api.Value, bool) {
	switch o.Kind {
	case api.AtReg:
		return named(s.regs, o.N)
	case api.AtNil:
		return known(api.Nil, o.N, o.N == 0)
	case api.AtBool:
		return known(api.Bool, o.N, o.N == 0 || o.N == 1)
	case api.AtInt:
		return known(api.Int, o.N, true)
	case api.AtReal:
		return known(api.Real, o.N, o.N&noSign <= infinite || o.N == oneNaN)
	case api.AtConst:
		return named(s.consts, o.N)
	case api.AtFunc:
		return known(api.Func, o.N, o.N >= 0)
	}
	return api.Value{}, false
}

// values are those of some operands; false, if one stands for nothing.
func (s source) values(l []api.Opnd) ([]api.Value, bool) {
	out := make([]api.Value, len(l))
	for k, o := range l {
		v, ok := s.value(o)
		if !ok {
			return nil, false
		}
		out[k] = v
	}
	return out, true
}

// named is the value of a number in a list; false: it names none.
func named(l []api.Value, n int64) (api.Value, bool) {
	if n < 0 || n >= int64(len(l)) {
		return api.Value{}, false
	}
	return l[n], true
}

// known is a value that stands in the operand itself, if its number is right.
func known(kind int, n int64, right bool) (api.Value, bool) {
	if !right {
		return api.Value{}, false
	}
	return api.Value{Kind: kind, N: n}, true
}
