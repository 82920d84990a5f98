// Package wire is layer 1: numbers and texts as bytes, each in one form only. See shared/doc/01-wire.md.
package wire

import "math/bits"

// UintLen is how many bytes Uint writes.
func UintLen(x uint64) int {
	// 0 has a digit too, the same as 1.
	return (bits.Len64(x|1) + 6) / 7
}

// fold is the number whose form stands for n: those below 0 lie between the others, so that small ones of both signs stay short.
func fold(n int64) uint64 {
	return uint64(n)<<1 ^ uint64(n>>63)
}

// unfold is the number for which the form of x stands.
func unfold(x uint64) int64 {
	return int64(x>>1) ^ -int64(x&1)
}
