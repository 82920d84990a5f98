package graph

import "slices"

// The dominators are found in the way of Lengauer and Tarjan, whose work grows hardly faster than the graph: a function may have any number of blocks. All numbers here are those by which a walk met the blocks, so a block's number is above those of all that dominate it.

// forest is the tree of the walk as far as it was linked, from the greatest numbers down.
type forest struct {
	semi  []int // the least number from which a way comes here over greater ones than this alone
	above []int // the one over it; -1: it is not linked yet
	best  []int // among those from here up to the one beneath above: the one whose semi is least
	path  []int // room for least
}

// newForest has nothing linked yet.
func newForest(n int) *forest {
	f := &forest{semi: make([]int, n), above: slices.Repeat([]int{-1}, n), best: make([]int, n)}
	for v := range n {
		f.semi[v], f.best[v] = v, v
	}
	return f
}

// least is, of those from v up to its root, the root left out, the one whose semi is least; of a root it is the root. What was gone through leads to the root at once from then on.
func (f *forest) least(v int) int {
	f.path = f.path[:0]
	for u := range climb(f.above, v) {
		f.path = append(f.path, u)
	}
	root := len(f.path) - 1
	for i := root - 2; i >= 0; i-- {
		u, over := f.path[i], f.path[i+1]
		if f.semi[f.best[over]] < f.semi[f.best[u]] {
			f.best[u] = f.best[over]
		}
		f.above[u] = f.path[root]
	}
	return f.best[v]
}

// idoms has for each block the one that dominates it at once; -1: none does.
func (w walk) idoms(next [][]int) []int {
	l := slices.Repeat([]int{-1}, len(next))
	for n, d := range w.dominators(next) {
		if n > 0 {
			l[w.met[n]] = w.met[d]
		}
	}
	return l
}

// dominators is idoms by numbers; what it has for 0 means nothing.
func (w walk) dominators(next [][]int) []int {
	f := newForest(len(w.met))
	ahead := w.ahead(next)
	idom := make([]int, len(w.met))
	waits := make([][]int, len(w.met)) // of each those whose semi it is
	for v := len(w.met) - 1; v > 0; v-- {
		for _, u := range ahead[v] {
			f.semi[v] = min(f.semi[v], f.semi[f.least(u)])
		}
		waits[f.semi[v]] = append(waits[f.semi[v]], v)
		over := w.from[v]
		f.above[v] = over
		for _, u := range waits[over] {
			// It has over itself for its dominator, or that of another: which that is, is known only when all have been gone through.
			idom[u] = over
			if best := f.least(u); f.semi[best] < over {
				idom[u] = best
			}
		}
		waits[over] = nil
	}
	for v := 1; v < len(idom); v++ {
		if idom[v] != f.semi[v] {
			idom[v] = idom[idom[v]]
		}
	}
	return idom
}

// ahead has for each reached block the reached blocks behind which it may come, by numbers.
func (w walk) ahead(next [][]int) [][]int {
	l := make([][]int, len(w.met))
	for v, b := range w.met {
		for _, n := range next[b] {
			l[w.number[n]] = append(l[w.number[n]], v)
		}
	}
	return l
}
