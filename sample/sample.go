// Package sample draws programs, states and register code, right ones and nearly right ones, for the tests of the layers. It has no source of its own: each number comes from the test, so that a test draws the same each time.
package sample

import (
	"math"

	"portage/api"
)

// Source tells a number from 0 to n - 1.
type Source interface{ Intn(n int) int }

// Edges are whole numbers about which sums, places and limits turn.
func Edges() []int {
	return []int{
		math.MinInt, math.MinInt + 1, -1 << 32, -2, -1, 0, 1, 2, 3, 9, 10, 63, 64, 65,
		api.MaxRegs - 1, api.MaxRegs, api.MaxRegs + 1, 2*api.MaxCode - 1, 2 * api.MaxCode, 2*api.MaxCode + 1,
		1 << 32, math.MaxInt - 1, math.MaxInt,
	}
}

// Edge is one of them.
func Edge(r Source) int { return one(r, Edges()...) }

// one is one of some things.
func one[T any](r Source, l ...T) T { return l[r.Intn(len(l))] }

// Consts are the constants of every program that is drawn here, of both kinds.
func Consts() []api.Const {
	return []api.Const{
		{Kind: api.Text, Text: "x"},
		{Kind: api.Real, N: 5},
		{Kind: api.Text, Text: "key"},
		{Kind: api.Text},
		{Kind: api.Real, N: math.MinInt64},
	}
}

// key is the number of a constant that is a text.
func key(r Source) int64 { return one[int64](r, 0, 2, 3) }
