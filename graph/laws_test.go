package graph

import (
	"math/rand"
	"slices"
	"testing"

	"portage/api"
)

// some calls for graphs of functions of all kinds.
func some(t *testing.T, seed int64, do func(f api.Function, g api.Graph)) {
	t.Helper()
	r := rand.New(rand.NewSource(seed))
	for range 8000 {
		f := someFunction(r, 16, 4)
		g, err := Build(f)
		if err != api.OK {
			t.Fatal(f, err)
		}
		do(f, g)
		if t.Failed() {
			t.Fatal(f, g)
		}
	}
}

// last is the place of a block's last instruction.
func last(f api.Function, g api.Graph, b int) int {
	if b+1 < len(g.Starts) {
		return g.Starts[b+1] - 1
	}
	return len(f.Code) - 1
}

// P9.8: every place stands in just one block, and only a block's last instruction parts.
func TestPlacesStandInBlocks(t *testing.T) {
	some(t, 98, func(f api.Function, g api.Graph) {
		in := make([]int, len(f.Code))
		for b := range g.Starts {
			for pc := g.Starts[b]; pc <= last(f, g, b); pc++ {
				in[pc]++
				if Block(g, pc) != b || parting(f.Code[pc]) && pc != last(f, g, b) {
					t.Error("place", pc, "in block", b)
				}
			}
		}
		if slices.Max(in) != 1 || slices.Min(in) != 1 {
			t.Error(in)
		}
	})
}

// P9.9: Dominates is what taking a block away tells.
func TestDominatesIsMeant(t *testing.T) {
	some(t, 99, func(f api.Function, g api.Graph) {
		reached := reachable(g.Next, 0, -1)
		for a := range g.Starts {
			around := reachable(g.Next, 0, a)
			for b := range g.Starts {
				if reached[b] && Dominates(g, a, b) != (a == b || !around[b]) {
					t.Error("Dominates", a, b)
				}
			}
		}
	})
}

// P9.10: what comes behind one of its own number or above comes by a head or a handler.
func TestBackByHeads(t *testing.T) {
	some(t, 910, func(f api.Function, g api.Graph) {
		for b, next := range g.Next {
			for _, c := range next {
				byHandler := slices.ContainsFunc(f.Handlers, func(h api.Handler) bool {
					return h.Target == g.Starts[c] && h.From <= last(f, g, b) && h.To > g.Starts[b]
				})
				end := f.Code[last(f, g, b)]
				byHead := leads(end) && end.A == int64(g.Starts[c]) && slices.Contains(g.Heads, g.Starts[c])
				if c <= b && !byHead && !byHandler {
					t.Error(b, "to", c)
				}
			}
		}
	})
}

// P9.11: what the order is good for.
func TestOrderIsGood(t *testing.T) {
	some(t, 911, func(f api.Function, g api.Graph) {
		at := make([]int, len(g.Order))
		for i, b := range g.Order {
			at[b] = i
		}
		reached := reachable(g.Next, 0, -1)
		if g.Order[0] != 0 {
			t.Error("it does not begin with 0")
		}
		for b := range g.Starts {
			for a := range g.Starts {
				if reached[b] && Dominates(g, a, b) && at[a] > at[b] {
					t.Error(a, "dominates", b)
				}
			}
			for _, c := range g.Next[b] {
				if reached[b] && at[c] <= at[b] && !reachable(g.Next, c, -1)[b] {
					t.Error(c, "comes behind", b)
				}
			}
		}
		if sorted := slices.Sorted(slices.Values(g.Order)); !slices.Equal(sorted, places(len(g.Starts), func(int) bool { return true })) {
			t.Error("not each block once")
		}
	})
}

// R5: asked again, it is the same.
func TestAskedAgain(t *testing.T) {
	some(t, 5, func(f api.Function, g api.Graph) {
		if again, _ := Build(f); !alike(g, again) {
			t.Error(again)
		}
	})
}
