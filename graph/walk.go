package graph

import "slices"

// walk is what is found by going from block 0 into all that it leads to. A reached block's number is how many were gone into ahead of it.
type walk struct {
	met    []int // the reached blocks, as they were gone into
	left   []int // the same, as they were written down
	number []int // of each block; -1: it is not reached
	from   []int // by number: the number of the one out of which it was gone into; -1: none
}

// explore goes into block 0. What is being gone through lies in a list and not in calls inside of calls, so that no row of blocks is too long.
func explore(next [][]int) walk {
	w := walk{number: slices.Repeat([]int{-1}, len(next))}
	asked := make([]int, len(next)) // of each block how many of its next ones were asked
	inside := []int{0}
	w.enter(0, -1)
going:
	for len(inside) > 0 {
		b := inside[len(inside)-1]
		for asked[b] < len(next[b]) {
			n := next[b][asked[b]]
			asked[b]++
			if w.number[n] < 0 {
				w.enter(n, w.number[b])
				inside = append(inside, n)
				continue going
			}
		}
		inside = inside[:len(inside)-1]
		w.left = append(w.left, b)
	}
	return w
}

// enter numbers a block.
func (w *walk) enter(b, from int) {
	w.number[b] = len(w.met)
	w.met = append(w.met, b)
	w.from = append(w.from, from)
}

// order is the reached blocks from the last to the first that was written down, then the others.
func (w walk) order() []int {
	l := slices.Clone(w.left)
	slices.Reverse(l)
	for b, n := range w.number {
		if n < 0 {
			l = append(l, b)
		}
	}
	return l
}
