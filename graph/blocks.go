package graph

import (
	"cmp"
	"slices"

	"portage/api"
	"portage/code"
)

// check is what is wrong with the places of which a function speaks.
func check(f api.Function) api.Errno {
	n := len(f.Code)
	if n == 0 {
		return api.ErrShort
	}
	for _, i := range f.Code {
		if code.Jumps(i.Op) && (i.A < 0 || i.A >= int64(n)) {
			return api.ErrIndex
		}
	}
	for _, h := range f.Handlers {
		if h.From < 0 || h.From >= h.To || h.To > n || h.Target < 0 || h.Target >= n {
			return api.ErrIndex
		}
	}
	return api.OK
}

// parts tells whether a block ends with an operation, wherever it stands.
func parts(op int) bool {
	switch op {
	case api.OpCall, api.OpSpawn, api.OpYield, api.OpSend, api.OpRecv:
		return true
	}
	return code.Jumps(op) || code.Ends(op)
}

// starts are the places at which blocks begin, rising.
func starts(f api.Function) []int {
	is := make([]bool, len(f.Code))
	is[0] = true
	for pc, i := range f.Code {
		if code.Jumps(i.Op) {
			is[i.A] = true
		}
		if parts(i.Op) && pc+1 < len(is) {
			is[pc+1] = true
		}
	}
	for _, h := range f.Handlers {
		is[h.Target] = true
	}
	return marked(is)
}

// heads are the places to which jumps lead back, rising.
func heads(l []api.Instr) []int {
	is := make([]bool, len(l))
	for pc, i := range l {
		if code.Jumps(i.Op) && i.A <= int64(pc) {
			is[i.A] = true
		}
	}
	return marked(is)
}

// marked are the places of a list that hold true, rising.
func marked(is []bool) []int {
	var l []int
	for pc, yes := range is {
		if yes {
			l = append(l, pc)
		}
	}
	return l
}

// span says that block to may come behind each of the blocks from first to last.
type span struct {
	to, first, last int
}

// follow has for each block the blocks that may come behind it, rising, each once.
func follow(f api.Function, starts []int) [][]int {
	l := spans(f, starts)
	slices.SortFunc(l, func(a, b span) int {
		return cmp.Or(cmp.Compare(a.to, b.to), cmp.Compare(a.first, b.first))
	})
	next := make([][]int, len(starts))
	done := 0 // the blocks below it have what they get of the block that is being laid in
	for i, s := range l {
		if i > 0 && l[i-1].to != s.to {
			done = 0
		}
		for b := max(done, s.first); b <= s.last; b++ {
			next[b] = append(next[b], s.to)
		}
		done = max(done, s.last+1)
	}
	return next
}

// spans are all that may come behind blocks, in no order.
func spans(f api.Function, starts []int) []span {
	of := blocks(starts, len(f.Code))
	var l []span
	for pc, i := range f.Code {
		b := of[pc]
		if code.Jumps(i.Op) {
			l = append(l, span{of[i.A], b, b})
		}
		if pc+1 < len(of) && of[pc+1] != b && !code.Ends(i.Op) {
			l = append(l, span{b + 1, b, b})
		}
	}
	for _, h := range f.Handlers {
		l = append(l, span{of[h.Target], of[h.From], of[h.To-1]})
	}
	return l
}

// blocks has for each of n places the block in which it stands.
func blocks(starts []int, n int) []int {
	of := make([]int, n)
	b := 0
	for pc := range of {
		if b+1 < len(starts) && starts[b+1] == pc {
			b++
		}
		of[pc] = b
	}
	return of
}
