package graph

import (
	"math/rand"
	"slices"
	"testing"

	"portage/api"
)

// R3: no list and an empty one are the same.
func TestEmptyLists(t *testing.T) {
	f := loop()
	a, _ := Build(f)
	f.Handlers = []api.Handler{}
	if b, err := Build(f); err != api.OK || !alike(a, b) {
		t.Error(a, b, err)
	}
}

// R4: a function that is handed in stays what it was, its spare room included.
func TestFunctionIsKept(t *testing.T) {
	r := rand.New(rand.NewSource(4))
	for range 2000 {
		f := someFunction(r, 12, 4)
		if r.Intn(4) == 0 {
			f.Code[0] = ins(api.OpJump, 99)
		}
		l := append(slices.Clone(f.Code), ins(api.OpBic, 99))
		hs := append(slices.Clone(f.Handlers), api.Handler{From: 99})
		g := api.Function{Code: l[:len(l)-1], Handlers: hs[:len(hs)-1]}
		Build(g)
		if !slices.Equal(l, append(f.Code, ins(api.OpBic, 99))) || !slices.Equal(hs, append(f.Handlers, api.Handler{From: 99})) {
			t.Fatal(f, "became", l, hs)
		}
	}
}

// lists are all lists of a graph but the outer one of Next.
func lists(g api.Graph) []*[]int {
	l := []*[]int{&g.Starts, &g.Order, &g.Idom, &g.Heads}
	for b := range g.Next {
		l = append(l, &g.Next[b])
	}
	return l
}

// R4: no list of an answer shares memory with another, its spare room included, nor with another answer.
func TestAnswerIsNew(t *testing.T) {
	r := rand.New(rand.NewSource(44))
	for range 500 {
		f := someFunction(r, 12, 4)
		want := meant(f)
		for k := range lists(want) {
			g, _ := Build(f)
			other, _ := Build(f)
			spoilt := *lists(g)[k]
			spoilt = spoilt[:cap(spoilt)]
			for i := range spoilt {
				spoilt[i] = -77
			}
			if !alike(other, want) {
				t.Fatal("another answer became", other)
			}
			for j, l := range lists(g) {
				if j != k && !slices.Equal(*l, *lists(want)[j]) {
					t.Fatal("another list became", *l)
				}
			}
		}
		g, _ := Build(f)
		clear(f.Code)
		clear(f.Handlers)
		if !alike(g, want) {
			t.Fatal("the answer became", g)
		}
	}
}

// R4: a graph that is asked stays what it was.
func TestGraphIsKept(t *testing.T) {
	f := loop()
	want := meant(f)
	g, _ := Build(f)
	for n := range 8 {
		Block(g, n)
		Dominates(g, n, 2)
		for range Doms(g, n) {
		}
	}
	if !alike(g, want) {
		t.Error("it became", g)
	}
}
