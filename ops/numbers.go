package ops

import (
	"portage/api"
	"portage/real"
)

// number is a value of kind Int or Real; its operations are asked of no other value, and where trapOf has no objection.
type number api.Value

// Numbers and truths as values.
func intOf(n int64) api.Value      { return api.Value{Kind: api.Int, N: n} }
func realOf(bits uint64) api.Value { return api.Value{Kind: api.Real, N: int64(bits)} }

func boolOf(b bool) api.Value {
	if b {
		return api.Value{Kind: api.Bool, N: 1}
	}
	return api.Value{Kind: api.Bool}
}

// isNumber tells whether a value is a number.
func isNumber(v api.Value) bool { return v.Kind == api.Int || v.Kind == api.Real }

// isInt tells whether a value is a whole number.
func isInt(v api.Value) bool { return v.Kind == api.Int }

// ints tells whether two numbers are whole numbers both.
func (a number) ints(b number) bool { return a.Kind == api.Int && b.Kind == api.Int }

// bits is the real of a number.
func (a number) bits() uint64 {
	if a.Kind == api.Int {
		return real.FromInt(a.N)
	}
	return uint64(a.N)
}

func (a number) add(b number) api.Value {
	if a.ints(b) {
		return intOf(a.N + b.N)
	}
	return realOf(real.Add(a.bits(), b.bits()))
}

func (a number) sub(b number) api.Value {
	if a.ints(b) {
		return intOf(a.N - b.N)
	}
	return realOf(real.Sub(a.bits(), b.bits()))
}

func (a number) mul(b number) api.Value {
	if a.ints(b) {
		return intOf(a.N * b.N)
	}
	return realOf(real.Mul(a.bits(), b.bits()))
}

func (a number) div(b number) api.Value {
	if a.ints(b) {
		return intOf(a.N / b.N)
	}
	return realOf(real.Div(a.bits(), b.bits()))
}

func (a number) neg() api.Value {
	if a.Kind == api.Int {
		return intOf(-a.N)
	}
	return realOf(real.Neg(a.bits()))
}

func (a number) floor() api.Value  { return realOf(real.Floor(a.bits())) }
func (a number) sqrt() api.Value   { return realOf(real.Sqrt(a.bits())) }
func (a number) single() api.Value { return realOf(real.Single(a.bits())) }

func (a number) less(b number) bool {
	if a.ints(b) {
		return a.N < b.N
	}
	return real.Less(a.bits(), b.bits())
}

func (a number) equal(b number) bool {
	if a.ints(b) {
		return a.N == b.N
	}
	return real.Equal(a.bits(), b.bits())
}

func (a number) lt(b number) api.Value { return boolOf(a.less(b)) }

// Of a NaN neither holds, so that le isn't what the other way round lt is not.
func (a number) le(b number) api.Value { return boolOf(a.less(b) || a.equal(b)) }

func (a number) rem(b number) api.Value { return intOf(a.N % b.N) }
func (a number) and(b number) api.Value { return intOf(a.N & b.N) }
func (a number) or(b number) api.Value  { return intOf(a.N | b.N) }
func (a number) xor(b number) api.Value { return intOf(a.N ^ b.N) }
func (a number) bic(b number) api.Value { return intOf(a.N &^ b.N) }
func (a number) not() api.Value         { return intOf(^a.N) }
func (a number) shl(b number) api.Value { return intOf(a.N << uint64(b.N)) }
func (a number) shr(b number) api.Value { return intOf(a.N >> uint64(b.N)) }

func (a number) ext8() api.Value  { return intOf(int64(int8(a.N))) }
func (a number) ext16() api.Value { return intOf(int64(int16(a.N))) }
func (a number) ext32() api.Value { return intOf(int64(int32(a.N))) }
