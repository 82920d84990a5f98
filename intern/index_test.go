package intern

import (
	"math"
	"slices"
	"testing"
)

// The chapter's examples, one call behind the other.
func TestExamples(t *testing.T) {
	x := New[string]()
	for i, s := range []string{"a", "b", "a", ""} {
		if got, want := x.Add(s), []int{0, 1, 0, 2}[i]; got != want {
			t.Errorf("Add(%q) = %d, not %d", s, got, want)
		}
	}
	alike(t, x, &model[string]{[]string{"a", "b", ""}}, []string{"a", "b", "", "c"})
	x.Cut(5)
	if x.Len() != 3 {
		t.Error("Cut(5) left", x.Len())
	}
	x.Cut(1)
	alike(t, x, &model[string]{[]string{"a"}}, []string{"a", "b", "", "c"})
	if x.Add("b") != 1 || x.Add("c") != 2 {
		t.Error("b and c again")
	}
	got := walked(x, func(i int, s string) {
		if i == 1 {
			x.Cut(2)
		}
		x.Add(s + "!")
	})
	if !slices.Equal(got, []pair[string]{{0, "a"}, {1, "b"}, {2, "b!"}}) {
		t.Error("the walk gave", got)
	}
	alike(t, x, &model[string]{[]string{"a", "b", "b!", "b!!"}}, []string{"a!", "b!!!", "c", "c!"})
	y, ok := From("p", "q")
	if !ok || !slices.Equal(y.Items(), []string{"p", "q"}) {
		t.Error("From p, q")
	}
	if y, ok := From("p", "q", "p"); y != nil || ok {
		t.Error("From p, q, p")
	}
}

// P5.1: New's holds nothing, and no zero value is taken for a thing that is there.
func TestNewHoldsNothing(t *testing.T) {
	alike(t, New[string](), &model[string]{}, []string{"", "a", "\x00"})
	alike(t, New[int](), &model[int]{}, []int{0, 1, -1, math.MinInt, math.MaxInt})
	alike(t, New[bool](), &model[bool]{}, []bool{false, true})
	alike(t, New[struct{}](), &model[struct{}]{}, []struct{}{{}})
}

// P5.1: From's holds its list in its order; no list and an empty one are the same.
func TestFromHoldsItsList(t *testing.T) {
	things := []string{"", "a", "A", "aa", "\x00", "\xff", "a\x00", "\u00e9", "e\u0301"}
	for n := range len(things) + 1 {
		x, m := made(t, things[:n]...)
		alike(t, x, m, things)
		back := slices.Clone(things[:n])
		slices.Reverse(back)
		x, m = made(t, back...)
		alike(t, x, m, things)
	}
	for _, l := range [][]int{nil, {}, make([]int, 0, 3)} {
		x, ok := From(l...)
		if !ok || x == nil || x.Len() != 0 || x.Add(9) != 0 {
			t.Error("From of nothing")
		}
	}
}

// P5.1: wherever in the list a thing stands twice, there is no index.
func TestFromOfATwin(t *testing.T) {
	for n := 2; n < 9; n++ {
		for i := range n {
			for j := range i {
				l := make([]int, n)
				for k := range l {
					l[k] = k * 3
				}
				l[i] = l[j]
				if x, ok := From(l...); x != nil || ok {
					t.Errorf("From(%v) = %v %v", l, x, ok)
				}
			}
		}
	}
	if x, ok := From("", ""); x != nil || ok {
		t.Error("From of two empty texts")
	}
	if x, ok := From(0, 0); x != nil || ok {
		t.Error("From of two zeros")
	}
	if x, ok := From(true, false, true, false); x != nil || ok {
		t.Error("From of two pairs")
	}
}

// P5.2, P5.3, P5.5: a thing keeps its number, however often it comes; Find lays nothing in.
func TestAddAndFind(t *testing.T) {
	x, m := New[int](), &model[int]{}
	things := []int{5, 0, -5, math.MaxInt, math.MinInt, 1, 2}
	for _, th := range append(slices.Clone(things), things...) {
		if n, ok := x.Find(th); !ok {
			if n != 0 || x.Len() != len(m.row) {
				t.Errorf("Find(%d) of none = %d, %d there", th, n, x.Len())
			}
		}
		if got, want := x.Add(th), m.add(th); got != want {
			t.Errorf("Add(%d) = %d, not %d", th, got, want)
		}
		alike(t, x, m, things)
	}
	if x.Len() != len(things) {
		t.Error(x.Len(), "things")
	}
}

// P5.6: what every number leaves of every row, and that what comes again is new.
func TestCut(t *testing.T) {
	things := []string{"a", "", "c", "d", "e"}
	for n := range len(things) + 1 {
		for _, k := range append(outside(), 0, 1, 2, 3, 4, 5, 6) {
			x, m := made(t, things[:n]...)
			x.Cut(k)
			m.cut(k)
			alike(t, x, m, things)
			for i := range things {
				th := things[len(things)-1-i]
				if got, want := x.Add(th), m.add(th); got != want {
					t.Fatalf("of %d cut to %d: Add(%q) = %d, not %d", n, k, th, got, want)
				}
			}
			alike(t, x, m, things)
		}
	}
}

// P5.6: an index of nothing is cut, and cut twice.
func TestCutOfNothing(t *testing.T) {
	for _, k := range append(outside(), 0, 1) {
		x := New[int]()
		x.Cut(k)
		x.Cut(k)
		if x.Len() != 0 || x.Add(7) != 0 || x.Add(8) != 1 || x.Add(7) != 0 {
			t.Errorf("Cut(%d) of nothing", k)
		}
	}
}

// P5.6: what is forgotten isn't kept, neither in the map nor in the row's spare room.
func TestCutKeepsNothing(t *testing.T) {
	x, _ := made(t, "a", "b", "c", "d")
	x.Cut(1)
	if len(x.numbers) != 1 {
		t.Error(len(x.numbers), "numbers of 1 thing")
	}
	for i, s := range x.row[:cap(x.row)] {
		if i >= 1 && s != "" {
			t.Errorf("%q is kept", s)
		}
	}
}

// P5.1: two indexes know nothing of one another, made together or one out of the other.
func TestIndexesAreApart(t *testing.T) {
	x, y := New[string](), New[string]()
	x.Add("a")
	if _, ok := y.Find("a"); ok || y.Len() != 0 || y.Add("b") != 0 {
		t.Error("two of New")
	}
	l := make([]string, 3, 9)
	copy(l, []string{"a", "b", "c"})
	x, _ = From(l...)
	y, _ = From(l...)
	x.Cut(1)
	x.Add("x")
	y.Add("y")
	alike(t, x, &model[string]{[]string{"a", "x"}}, []string{"b", "c", "x", "y"})
	alike(t, y, &model[string]{[]string{"a", "b", "c", "y"}}, []string{"b", "c", "x", "y"})
	z, _ := From(y.Items()...)
	z.Cut(0)
	z.Add("z")
	alike(t, y, &model[string]{[]string{"a", "b", "c", "y"}}, []string{"z"})
}
