package ops

import (
	"math/big"
	"slices"

	"portage/api"
	"portage/real"
)

// wrapped is a whole number's place in the ring of 64 bits.
func wrapped(x *big.Int) api.Value {
	ring := new(big.Int).Lsh(big.NewInt(1), 64)
	n := new(big.Int).Mod(x, ring) // of 0 or above
	if n.Bit(63) == 1 {
		n.Sub(n, ring)
	}
	return api.Value{Kind: api.Int, N: n.Int64()}
}

// modelNumbers does an operation on numbers: whole ones as they are in arithmetic without bounds, and then wrapped.
func modelNumbers(i api.Instr, a []api.Value) (api.Value, int) {
	ints := true
	for _, v := range a {
		if v.Kind != api.Int && v.Kind != api.Real {
			return api.Value{}, api.TrapType
		}
		ints = ints && v.Kind == api.Int
	}
	if slices.Contains([]int{api.OpRem, api.OpAnd, api.OpOr, api.OpXor, api.OpBic, api.OpNot, api.OpShl, api.OpShr, api.OpExt}, i.Op) && !ints {
		return api.Value{}, api.TrapType
	}
	if ints && i.Op != api.OpFloor && i.Op != api.OpSqrt && i.Op != api.OpSingle {
		var l []*big.Int
		for _, v := range a {
			l = append(l, big.NewInt(v.N))
		}
		x, trap := modelInts(i, l)
		if trap != 0 {
			return api.Value{}, trap
		}
		return wrapped(x), 0
	}
	var l []uint64
	for _, v := range a {
		x, _ := modelReal(v)
		l = append(l, x)
	}
	return api.Value{Kind: api.Real, N: int64(modelReals(i.Op, l))}, 0
}

func modelReals(op int, a []uint64) uint64 {
	switch op {
	case api.OpAdd:
		return real.Add(a[0], a[1])
	case api.OpSub:
		return real.Sub(a[0], a[1])
	case api.OpMul:
		return real.Mul(a[0], a[1])
	case api.OpDiv:
		return real.Div(a[0], a[1])
	case api.OpNeg:
		return real.Neg(a[0])
	case api.OpFloor:
		return real.Floor(a[0])
	case api.OpSqrt:
		return real.Sqrt(a[0])
	}
	return real.Single(a[0])
}

func modelInts(i api.Instr, a []*big.Int) (*big.Int, int) {
	x := new(big.Int)
	switch i.Op {
	case api.OpAdd:
		return x.Add(a[0], a[1]), 0
	case api.OpSub:
		return x.Sub(a[0], a[1]), 0
	case api.OpMul:
		return x.Mul(a[0], a[1]), 0
	case api.OpNeg:
		return x.Neg(a[0]), 0
	case api.OpDiv, api.OpRem:
		if a[1].Sign() == 0 {
			return nil, api.TrapDivide
		}
		x.Quo(a[0], a[1])
		if i.Op == api.OpRem {
			x.Sub(a[0], x.Mul(a[1], x))
		}
		return x, 0
	case api.OpShl, api.OpShr:
		return modelShift(i.Op, a[0], a[1])
	case api.OpExt:
		n := uint(i.A)
		for k := range int(n) {
			x.SetBit(x, k, a[0].Bit(k))
		}
		if x.Bit(int(n)-1) == 1 {
			x.Sub(x, new(big.Int).Lsh(big.NewInt(1), n))
		}
		return x, 0
	}
	return modelBits(i.Op, a), 0
}

func modelShift(op int, a, n *big.Int) (*big.Int, int) {
	x := new(big.Int)
	switch {
	case n.Sign() < 0:
		return nil, api.TrapRange
	case op == api.OpShl && n.Cmp(big.NewInt(64)) >= 0:
		return x, 0
	case op == api.OpShl:
		return x.Mul(a, new(big.Int).Exp(big.NewInt(2), n, nil)), 0
	case n.Cmp(big.NewInt(64)) >= 0 && a.Sign() < 0:
		return x.SetInt64(-1), 0
	case n.Cmp(big.NewInt(64)) >= 0:
		return x, 0
	}
	// Of a divisor above 0 Div is the greatest whole number that isn't above the quotient.
	return x.Div(a, new(big.Int).Exp(big.NewInt(2), n, nil)), 0
}

// modelBits goes through the 64 places; those of a number below 0 are two's complement's.
func modelBits(op int, a []*big.Int) *big.Int {
	x := new(big.Int)
	for k := range 64 {
		p, q := a[0].Bit(k), uint(0)
		if len(a) > 1 {
			q = a[1].Bit(k)
		}
		var is bool
		switch op {
		case api.OpAnd:
			is = p == 1 && q == 1
		case api.OpOr:
			is = p == 1 || q == 1
		case api.OpXor:
			is = p != q
		case api.OpBic:
			is = p == 1 && q == 0
		case api.OpNot:
			is = p == 0
		}
		if is {
			x.SetBit(x, k, 1)
		}
	}
	return x
}
