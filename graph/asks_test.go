package graph

import (
	"iter"
	"math"
	"math/rand"
	"slices"
	"sync"
	"testing"

	"portage/api"
)

// climbed is what Doms must go over, by the words.
func climbed(idom []int, b int) []int {
	var l []int
	for len(l) < len(idom) && b >= 0 && b <= len(idom)-1 {
		l = append(l, b)
		b = idom[b]
	}
	return l
}

// greatest is what Block must answer, by the words.
func greatest(starts []int, pc int) int {
	most := -1
	for i, s := range starts {
		if s <= pc {
			most = i
		}
	}
	return most
}

// asked asks for all about a graph that the words answer.
func asked(t *testing.T, g api.Graph) {
	t.Helper()
	near := append([]int{math.MinInt, -2, -1, 0, 1, 2, len(g.Idom) - 1, len(g.Idom), len(g.Idom) + 1, math.MaxInt}, g.Idom...)
	for _, b := range append(near, g.Starts...) {
		want := climbed(g.Idom, b)
		if l := slices.Collect(Doms(g, b)); !slices.Equal(l, want) {
			t.Fatalf("%v: Doms(%d) goes over %v and not %v", g, b, l, want)
		}
		for _, a := range near {
			if Dominates(g, a, b) != slices.Contains(want, a) {
				t.Fatalf("%v: Dominates(%d, %d)", g, a, b)
			}
		}
		for _, pc := range []int{b - 1, b, b + 1} {
			if Block(g, pc) != greatest(g.Starts, pc) {
				t.Fatalf("%v: Block(%d) is %d", g, pc, Block(g, pc))
			}
		}
	}
}

func TestAsksExamples(t *testing.T) {
	g, _ := Build(loop())
	for _, c := range [][2]int{{3, 1}, {-1, -1}, {99, 2}, {0, 0}, {1, 0}, {2, 1}, {4, 2}, {math.MinInt, -1}, {math.MaxInt, 2}} {
		if Block(g, c[0]) != c[1] {
			t.Error("Block of", c[0], "is", Block(g, c[0]))
		}
	}
	if l := slices.Collect(Doms(g, 2)); !slices.Equal(l, []int{2, 0}) {
		t.Error(l)
	}
	asked(t, g)
}

// P9.5 to P9.7: graphs that Build has never answered: starts in any order, rings, numbers that name nothing.
func TestAsksOfAnyGraph(t *testing.T) {
	for _, g := range []api.Graph{
		{},
		{Starts: []int{}, Idom: []int{}},
		{Starts: []int{5}, Idom: []int{0}},
		{Starts: []int{0, 9, 3}, Idom: []int{1, 0}},
		{Starts: []int{9, 3, 0}, Idom: []int{1, 2, 0}},
		{Starts: []int{0, 0, 0}, Idom: []int{3, 2, 1}},
		{Starts: []int{-5, 7}, Idom: []int{math.MinInt, math.MaxInt, 1, 2}},
		{Starts: []int{math.MaxInt, math.MinInt}, Idom: []int{-1, 0, 1, 2, 3, 4}},
		{Starts: []int{1, 2}, Next: [][]int{{7}}, Order: []int{9}, Heads: []int{-1}},
		{Idom: []int{-1, 0, 1}},
	} {
		asked(t, g)
	}
	r := rand.New(rand.NewSource(95))
	for range 20000 {
		g := api.Graph{Starts: make([]int, r.Intn(7)), Idom: make([]int, r.Intn(7))}
		for i := range g.Starts {
			g.Starts[i] = r.Intn(12) - 3
		}
		for i := range g.Idom {
			g.Idom[i] = r.Intn(len(g.Idom)+2) - 1
		}
		asked(t, g)
	}
}

// P9.6: a ring is left when as many numbers were gone over as there are, from everywhere.
func TestRing(t *testing.T) {
	g := api.Graph{Idom: []int{1, 2, 3, 4, 2}}
	for b, want := range [][]int{{0, 1, 2, 3, 4}, {1, 2, 3, 4, 2}, {2, 3, 4, 2, 3}, {3, 4, 2, 3, 4}, {4, 2, 3, 4, 2}} {
		if l := slices.Collect(Doms(g, b)); !slices.Equal(l, want) {
			t.Error(b, l)
		}
	}
	if Dominates(g, 0, 1) || Dominates(g, 1, 2) || !Dominates(g, 4, 0) {
		t.Error("Dominates of a ring")
	}
}

// P9.6: it goes over what g held when Doms was called, whatever becomes of g, also while it goes.
func TestDomsRemembers(t *testing.T) {
	g := api.Graph{Idom: []int{-1, 0, 1, 2, 3}}
	want := []int{4, 3, 2, 1, 0}
	w := Doms(g, 4)
	var l []int
	for d := range w {
		l = append(l, d)
		clear(g.Idom)
	}
	if !slices.Equal(l, want) {
		t.Error(l)
	}
	g.Idom = nil
	for range 3 {
		if l := slices.Collect(w); !slices.Equal(l, want) {
			t.Error(l)
		}
	}
}

// P9.6: it is stopped at any place, and goes from its beginning again.
func TestDomsStops(t *testing.T) {
	w := Doms(api.Graph{Idom: []int{-1, 0, 1, 2, 3}}, 4)
	for n := 1; n <= 5; n++ {
		var l []int
		for d := range w {
			l = append(l, d)
			if len(l) == n {
				break
			}
		}
		if !slices.Equal(l, []int{4, 3, 2, 1, 0}[:n]) {
			t.Error(n, l)
		}
	}
	calls := 0
	w(func(int) bool { calls++; return false })
	if calls != 1 {
		t.Error("asked again", calls)
	}
}

// P9.6: several walks of one answer go at a time: inside of one another, by turns, and in goroutines.
func TestDomsAtOneTime(t *testing.T) {
	w := Doms(api.Graph{Idom: []int{-1, 0, 1}}, 2)
	var pairs [][2]int
	for a := range w {
		for b := range w {
			pairs = append(pairs, [2]int{a, b})
		}
	}
	if !slices.Equal(pairs, [][2]int{{2, 2}, {2, 1}, {2, 0}, {1, 2}, {1, 1}, {1, 0}, {0, 2}, {0, 1}, {0, 0}}) {
		t.Error(pairs)
	}
	one, stopOne := iter.Pull(w)
	two, stopTwo := iter.Pull(w)
	defer stopOne()
	defer stopTwo()
	for want := 2; want >= 0; want-- {
		a, _ := one()
		b, _ := two()
		if a != want || b != want {
			t.Error(want, a, b)
		}
	}
	if _, more := one(); more {
		t.Error("one goes on")
	}
	var all sync.WaitGroup
	got := make([][]int, 8)
	for k := range got {
		all.Go(func() { got[k] = slices.Collect(w) })
	}
	all.Wait()
	for _, l := range got {
		if !slices.Equal(l, []int{2, 1, 0}) {
			t.Error(l)
		}
	}
}
