package graph

import (
	"slices"
	"testing"

	"portage/api"
)

// R1: Build knows no limit of how many instructions and handlers there are. Work that grew with the square of the size would not end here.

const big = 1 << 20

// row is as many yields, a block each, and a block of its own behind them.
func row(n int) api.Function {
	l := slices.Repeat([]api.Instr{ins(api.OpYield)}, n)
	return fn(append(l, ins(api.OpRet))...)
}

// rising are the numbers from a to b.
func rising(a, b int) []int {
	l := make([]int, 0, b-a+1)
	for ; a <= b; a++ {
		l = append(l, a)
	}
	return l
}

func TestLongRow(t *testing.T) {
	g, err := Build(row(big))
	if err != api.OK || !slices.Equal(g.Order, rising(0, big)) || !slices.Equal(g.Idom, rising(-1, big-1)) {
		t.Fatal(err, len(g.Order))
	}
	if !Dominates(g, 0, big) || Dominates(g, big, 0) || Block(g, 5) != 5 {
		t.Error("asks of a long row")
	}
}

// A block into which all of a long row may lead is dominated by the first alone.
func TestLongRowAndHandler(t *testing.T) {
	f := row(big)
	f.Handlers = []api.Handler{{From: 0, To: big, Target: big}}
	g, err := Build(f)
	if err != api.OK || g.Idom[big] != 0 || !slices.Equal(g.Idom[:big], rising(-1, big-2)) || len(g.Next[7]) != 2 {
		t.Fatal(err)
	}
}

// Handlers as many as instructions, that lead from everywhere to one place.
func TestManyHandlers(t *testing.T) {
	f := row(big)
	for k := range big {
		f.Handlers = append(f.Handlers, api.Handler{From: k % 100, To: big - k%100, Target: 50})
	}
	g, err := Build(f)
	if err != api.OK || !slices.Equal(g.Next[big-1], []int{50, big}) || !slices.Equal(g.Next[0], []int{1, 50}) || !slices.Equal(g.Next[49], []int{50}) {
		t.Fatal(err)
	}
}

// two is two rows of n blocks, the second behind the first, and a last block. Each block of the first may lead to the one beside it in the second, and, if back is set, each of the second to the one beside it in the first.
func two(n int, back bool) api.Function {
	l := make([]api.Instr, 2*n+1)
	for k := range n {
		l[k] = ins(api.OpJz, int64(n+k))
		l[n+k] = ins(api.OpYield)
		if back {
			l[n+k] = ins(api.OpJz, int64(k))
		}
	}
	l[2*n] = ins(api.OpRet)
	return fn(l...)
}

// Where two rows meet at every place, nothing but the first block dominates what lies there.
func TestTwoLongRows(t *testing.T) {
	for _, n := range []int{2, 5, 20, big / 2} {
		there, _ := Build(two(n, false))
		want := slices.Concat(rising(-1, n-2), slices.Repeat([]int{0}, n), []int{2*n - 1})
		if !slices.Equal(there.Idom, want) || len(there.Heads) != 0 {
			t.Error(n, "there")
		}
		back, _ := Build(two(n, true))
		want = slices.Concat([]int{-1}, slices.Repeat([]int{0}, 2*n-1), []int{2*n - 1})
		if !slices.Equal(back.Idom, want) || !slices.Equal(back.Heads, rising(0, n-1)) {
			t.Error(n, "there and back")
		}
		if n <= 20 {
			built(t, two(n, false))
			built(t, two(n, true))
		}
	}
}
