package intern

import (
	"slices"
	"testing"
)

// R4: the list that From was given isn't kept and isn't changed, its spare room included.
func TestFromKeepsNoList(t *testing.T) {
	l := []int{3, 1, 2, 77, 78}
	x, _ := From(l[:3]...)
	x.Add(4)
	x.Cut(1)
	x.Add(9)
	if !slices.Equal(l, []int{3, 1, 2, 77, 78}) {
		t.Error("the list became", l)
	}
	for i := range l {
		l[i] = 50
	}
	alike(t, x, &model[int]{[]int{3, 9}}, []int{3, 1, 2, 4, 50, 9})
}

// R4: Items is the asker's own, its spare room included, and so is each answer of it.
func TestItemsIsNewMemory(t *testing.T) {
	x, m := made(t, 3, 1, 2)
	a, b := x.Items(), x.Items()
	fill(a, 50)
	if !slices.Equal(b, []int{3, 1, 2}) {
		t.Error("two answers share memory:", b)
	}
	fill(b, 60)
	alike(t, x, m, []int{3, 1, 2, 50, 60})
	c := x.Items()
	x.Cut(0)
	x.Add(8)
	x.Add(9)
	if !slices.Equal(c, []int{3, 1, 2}) {
		t.Error("an answer became", c)
	}
}

// fill writes over a list and its spare room.
func fill(l []int, n int) {
	l = l[:cap(l)]
	for i := range l {
		l[i] = n
	}
}

// R4: behind a Cut, what is added to an answer isn't laid into the index's room.
func TestItemsBehindCut(t *testing.T) {
	x, _ := made(t, 3, 1, 2)
	for n := 2; n >= 0; n-- {
		x.Cut(n)
		l := append(x.Items(), 40, 41, 42)
		x.Add(7)
		if l[n] != 40 || x.Items()[n] != 7 {
			t.Error(l, x.Items())
		}
		fill(l, 50)
		if x.Items()[n] != 7 {
			t.Error("holds", x.Items())
		}
	}
}

// R4: an array that is numbered is a copy; what it was filled from goes its own way.
func TestArraysAreCopies(t *testing.T) {
	x := New[[2]int]()
	a := [2]int{1, 2}
	x.Add(a)
	a[0] = 5
	if n, ok := x.Find([2]int{1, 2}); n != 0 || !ok {
		t.Error("the array changed in the index")
	}
	got, _ := x.At(0)
	got[1] = 9
	for _, th := range x.All() {
		if th != [2]int{1, 2} {
			t.Error("holds", th)
		}
	}
}
