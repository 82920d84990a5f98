package fold

import (
	"portage/api"
	"portage/ops"
)

// none is the kind where none is known, the Dst of what gives no value, and the place of a point that isn't there.
const none = -1

// kinds are the known kinds of registers: of each its kind less none, so that at first none is known.
type kinds [api.MaxRegs]uint8

// of is the known kind of a register.
func (k *kinds) of(r int64) int {
	if r < 0 || r >= api.MaxRegs {
		return none
	}
	return int(k[r]) + none
}

// put puts down which kind a register has from here on.
func (k *kinds) put(r, kind int) {
	if r < 0 || r >= api.MaxRegs {
		return
	}
	if kind < api.Nil || kind > api.Chan {
		kind = none
	}
	k[r] = uint8(kind - none)
}

// only is the one operand of an instruction; one of which nothing is known, if it has none or several.
func only(l []api.Opnd) api.Opnd {
	if len(l) != 1 {
		return api.Opnd{Kind: none}
	}
	return l[0]
}

// constant is a constant that an operand names; false: it names none.
func (f *folder) constant(o api.Opnd) (api.Const, bool) {
	l := f.world.Program.Consts
	if o.Kind != api.AtConst || o.N < 0 || o.N >= int64(len(l)) {
		return api.Const{}, false
	}
	return l[o.N], true
}

// value is what a known value is; false: it is none.
func (f *folder) value(o api.Opnd) (api.Value, bool) {
	switch o.Kind {
	case api.AtNil:
		return api.Value{}, true
	case api.AtBool:
		return api.Value{Kind: api.Bool, N: o.N}, true
	case api.AtInt:
		return api.Value{Kind: api.Int, N: o.N}, true
	case api.AtReal:
		return api.Value{Kind: api.Real, N: o.N}, true
	case api.AtFunc:
		return api.Value{Kind: api.Func, N: o.N}, true
	}
	if c, ok := f.constant(o); ok && c.Kind == api.Real {
		return api.Value{Kind: api.Real, N: c.N}, true
	}
	return api.Value{}, false
}

// values are known values; false: one of them is none.
func (f *folder) values(l []api.Opnd) ([]api.Value, bool) {
	out := make([]api.Value, 0, len(l))
	for _, o := range l {
		v, ok := f.value(o)
		if !ok {
			return nil, false
		}
		out = append(out, v)
	}
	return out, true
}

// operand is the operand of a value; false: it has none.
func operand(v api.Value) (api.Opnd, bool) {
	switch v.Kind {
	case api.Nil:
		return api.Opnd{Kind: api.AtNil}, true
	case api.Bool:
		return api.Opnd{Kind: api.AtBool, N: v.N}, true
	case api.Int:
		return api.Opnd{Kind: api.AtInt, N: v.N}, true
	case api.Real:
		return api.Opnd{Kind: api.AtReal, N: v.N}, true
	case api.Func:
		return api.Opnd{Kind: api.AtFunc, N: v.N}, true
	}
	return api.Opnd{}, false
}

// kind is the known kind of an operand.
func (f *folder) kind(o api.Opnd) int {
	if o.Kind == api.AtReg {
		return f.known.of(o.N)
	}
	if v, ok := f.value(o); ok {
		return v.Kind
	}
	if c, ok := f.constant(o); ok {
		return c.Kind
	}
	return none
}

// truth is an operand's truth; false: it isn't known.
func (f *folder) truth(o api.Opnd) (bool, bool) {
	if v, ok := f.value(o); ok {
		return ops.Truth(v), true
	}
	kind := f.kind(o)
	if kind == none || kind == api.Bool {
		return false, false
	}
	// Of any other kind all values are alike in this.
	return ops.Truth(api.Value{Kind: kind}), true
}

// given is the known kind of what an operation gives.
func (f *folder) given(x api.RIns) int {
	switch x.Code {
	case api.OpAnd, api.OpOr, api.OpXor, api.OpBic, api.OpNot, api.OpShl, api.OpShr, api.OpExt, api.OpRem, api.OpToInt, api.OpLen:
		return api.Int
	case api.OpToReal, api.OpSingle, api.OpFloor, api.OpSqrt:
		return api.Real
	case api.OpToText, api.OpKind, api.OpCat, api.OpCut:
		return api.Text
	case api.OpEq, api.OpNe, api.OpLt, api.OpLe, api.OpTest, api.OpFlip, api.OpHasf:
		return api.Bool
	case api.OpBind:
		return api.Bound
	case api.OpArray, api.OpKeys:
		return api.Array
	case api.OpRecord:
		return api.Record
	case api.OpChan:
		return api.Chan
	case api.OpAdd, api.OpSub, api.OpMul, api.OpDiv, api.OpNeg:
		return f.number(x.Args)
	}
	return none
}

// number is the known kind of what is reckoned out of numbers: of whole ones a whole one.
func (f *folder) number(l []api.Opnd) int {
	sum := api.Int
	for _, o := range l {
		switch f.kind(o) {
		case api.Int:
		case api.Real:
			sum = api.Real
		default:
			return none
		}
	}
	return sum
}
