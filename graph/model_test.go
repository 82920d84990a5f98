package graph

import (
	"math/rand"
	"reflect"
	"slices"
	"testing"

	"portage/api"
)

// The chapter's words, slowly: every question is asked anew, block by block and place by place.

// ins is an instruction.
func ins(op int, a ...int64) api.Instr {
	i := api.Instr{Op: op}
	if len(a) > 0 {
		i.A = a[0]
	}
	return i
}

// fn is a function of this code.
func fn(l ...api.Instr) api.Function { return api.Function{Code: l} }

// leads tells whether an instruction is a jump.
func leads(i api.Instr) bool {
	return i.Op == api.OpJump || i.Op == api.OpJz || i.Op == api.OpJnz
}

// parting tells whether a start must lie behind an instruction.
func parting(i api.Instr) bool {
	return leads(i) || slices.Contains([]int{api.OpRet, api.OpThrow, api.OpCall, api.OpSpawn, api.OpYield, api.OpSend, api.OpRecv}, i.Op)
}

// isStart tells whether a block begins at a place.
func isStart(f api.Function, pc int) bool {
	if pc == 0 || parting(f.Code[pc-1]) {
		return true
	}
	for _, i := range f.Code {
		if leads(i) && i.A == int64(pc) {
			return true
		}
	}
	for _, h := range f.Handlers {
		if h.Target == pc {
			return true
		}
	}
	return false
}

// places are those of which a question holds.
func places(n int, asks func(pc int) bool) []int {
	var l []int
	for pc := range n {
		if asks(pc) {
			l = append(l, pc)
		}
	}
	return l
}

// isHead tells whether a jump leads to a place that stands there or further on.
func isHead(f api.Function, pc int) bool {
	for at := pc; at < len(f.Code); at++ {
		if leads(f.Code[at]) && f.Code[at].A == int64(pc) {
			return true
		}
	}
	return false
}

// mayFollow tells whether block c may come behind block b.
func mayFollow(f api.Function, starts []int, b, c int) bool {
	end := len(f.Code)
	if b+1 < len(starts) {
		end = starts[b+1]
	}
	last := f.Code[end-1]
	if leads(last) && last.A == int64(starts[c]) {
		return true
	}
	if c == b+1 && last.Op != api.OpJump && last.Op != api.OpRet && last.Op != api.OpThrow {
		return true
	}
	for _, h := range f.Handlers {
		for pc := starts[b]; pc < end; pc++ {
			if h.From <= pc && pc < h.To && h.Target == starts[c] {
				return true
			}
		}
	}
	return false
}

// reachable are the blocks to which a way leads from one, that does not go through another; -1: through any.
func reachable(next [][]int, from, without int) []bool {
	seen := make([]bool, len(next))
	var see func(b int)
	see = func(b int) {
		if b == without || seen[b] {
			return
		}
		seen[b] = true
		for _, c := range next[b] {
			see(c)
		}
	}
	see(from)
	return seen
}

// written is the order of P9.3.
func written(next [][]int) []int {
	marked := make([]bool, len(next))
	var down []int
	var into func(b int)
	into = func(b int) {
		marked[b] = true
		for _, c := range next[b] {
			if !marked[c] {
				into(c)
			}
		}
		down = append(down, b)
	}
	into(0)
	slices.Reverse(down)
	for b := range next {
		if !marked[b] {
			down = append(down, b)
		}
	}
	return down
}

// dominating has for each block the blocks that dominate it.
func dominating(next [][]int) [][]int {
	l := make([][]int, len(next))
	reached := reachable(next, 0, -1)
	for a := range next {
		around := reachable(next, 0, a)
		for b := range next {
			if reached[b] && !around[b] {
				l[b] = append(l[b], a)
			}
		}
	}
	return l
}

// atOnce is, of the blocks that dominate b, other than it, the one that all of them dominate; -1: there is none.
func atOnce(over [][]int, b int) int {
	others := slices.DeleteFunc(slices.Clone(over[b]), func(a int) bool { return a == b })
	for _, a := range others {
		if len(over[a]) == len(others) {
			return a
		}
	}
	return -1
}

// meant is what Build must answer for a function without a fault.
func meant(f api.Function) api.Graph {
	n := len(f.Code)
	g := api.Graph{Starts: places(n, func(pc int) bool { return isStart(f, pc) }), Heads: places(n, func(pc int) bool { return isHead(f, pc) })}
	for b := range g.Starts {
		g.Next = append(g.Next, places(len(g.Starts), func(c int) bool { return mayFollow(f, g.Starts, b, c) }))
	}
	g.Order = written(g.Next)
	over := dominating(g.Next)
	for b := range g.Starts {
		g.Idom = append(g.Idom, atOnce(over, b))
	}
	return g
}

// wrong is the error that Build must answer.
func wrong(f api.Function) api.Errno {
	n := len(f.Code)
	if n == 0 {
		return api.ErrShort
	}
	for _, i := range f.Code {
		if leads(i) && (i.A < 0 || i.A > int64(n)-1) {
			return api.ErrIndex
		}
	}
	for _, h := range f.Handlers {
		if !(0 <= h.From && h.From < h.To && h.To <= n) || !(0 <= h.Target && h.Target < n) {
			return api.ErrIndex
		}
	}
	return api.OK
}

// alike tells whether two graphs are the same, where no list and an empty one are.
func alike(a, b api.Graph) bool {
	return slices.Equal(a.Starts, b.Starts) && slices.Equal(a.Order, b.Order) && slices.Equal(a.Idom, b.Idom) &&
		slices.Equal(a.Heads, b.Heads) && slices.EqualFunc(a.Next, b.Next, func(x, y []int) bool { return slices.Equal(x, y) })
}

// built asks that Build answers what the words answer, and is its answer.
func built(t *testing.T, f api.Function) (api.Graph, bool) {
	t.Helper()
	g, err := Build(f)
	if want := wrong(f); err != want {
		t.Fatalf("%v is %v and not %v", f, err, want)
	}
	if err != api.OK {
		if !reflect.DeepEqual(g, api.Graph{}) {
			t.Fatalf("%v: %v beside %v", f, g, err)
		}
		return g, false
	}
	if want := meant(f); !alike(g, want) {
		t.Fatalf("%v is\n%v and not\n%v", f, g, want)
	}
	return g, true
}

// someFunction is a function of up to so many instructions, with up to so many handlers; some fits behind few blocks, some behind many.
func someFunction(r *rand.Rand, most, handlers int) api.Function {
	n := 1 + r.Intn(most)
	plain := r.Intn(4)
	f := api.Function{Code: make([]api.Instr, n)}
	for pc := range f.Code {
		op := []int{api.OpJump, api.OpJz, api.OpJnz, api.OpJz, api.OpJnz, api.OpCall, api.OpRet, api.OpThrow, api.OpYield, api.OpNop}[r.Intn(10)]
		if r.Intn(4) < plain {
			op = r.Intn(api.Ops+20) - 10
		}
		f.Code[pc] = ins(op, int64(r.Intn(n)))
	}
	for range r.Intn(handlers + 1) {
		from := r.Intn(n)
		f.Handlers = append(f.Handlers, api.Handler{From: from, To: from + 1 + r.Intn(n-from), Target: r.Intn(n), Height: r.Intn(3)})
	}
	return f
}
