package intern

import (
	"math/rand"
	"slices"
	"strconv"
	"testing"
)

// firsts are, for each item of a list, how many unlike things stand ahead of the first one like it.
func firsts(l []int) []int {
	var out []int
	for _, th := range l {
		ahead := map[int]bool{}
		for _, other := range l[:slices.Index(l, th)] {
			ahead[other] = true
		}
		out = append(out, len(ahead))
	}
	return out
}

// P5.8: every list of up to 6 things out of 4.
func TestNumbersOfEveryList(t *testing.T) {
	for n := range 7 {
		l := make([]int, n)
		for more := true; more; more = turn(l, 4) {
			numbered(t, l)
		}
	}
}

// turn makes a list the next one of its length, whose items are below k; false behind the last.
func turn(l []int, k int) bool {
	for i := range l {
		l[i]++
		if l[i] < k {
			return true
		}
		l[i] = 0
	}
	return false
}

// numbered holds a list's numbers and the row that it leaves against the promise.
func numbered(t *testing.T, l []int) {
	t.Helper()
	x := New[int]()
	var row []int
	want := firsts(l)
	for k, th := range l {
		if !slices.Contains(row, th) {
			row = append(row, th)
		}
		if got := x.Add(th); got != want[k] {
			t.Fatalf("of %v: Add of item %d = %d, not %d", l, k, got, want[k])
		}
	}
	for k, th := range l {
		if n, ok := x.Find(th); n != want[k] || !ok {
			t.Fatalf("of %v: item %d is %d %v, not %d", l, k, n, ok, want[k])
		}
	}
	if !slices.Equal(x.Items(), row) || x.Len() != len(row) {
		t.Fatalf("of %v: holds %v, not %v", l, x.Items(), row)
	}
}

// P5.1 to P5.7: long rows of calls of all kinds, against the row of the document's words.
func TestRowsOfCalls(t *testing.T) {
	r := rand.New(rand.NewSource(5))
	for range 300 {
		room := 1 + r.Intn(30)
		var things []string
		for i := range room {
			things = append(things, strconv.Itoa(i*i))
		}
		x, m := New[string](), &model[string]{}
		for range 60 {
			if r.Intn(8) == 0 {
				n := r.Intn(room+4) - 2
				x.Cut(n)
				m.cut(n)
			}
			th := things[r.Intn(room)]
			if got, want := x.Add(th), m.add(th); got != want {
				t.Fatalf("Add(%q) = %d, not %d", th, got, want)
			}
			if len(x.numbers) != len(m.row) {
				t.Fatalf("%d numbers of %d things", len(x.numbers), len(m.row))
			}
		}
		alike(t, x, m, things)
		twin(t, x, m, things)
	}
}

// twin: P5.9, an index made of another's row answers each call as that one does, and goes on as it does.
func twin(t *testing.T, x *Index[string], m *model[string], things []string) {
	t.Helper()
	y, ok := From(x.Items()...)
	if !ok {
		t.Fatalf("From(%v...) is none", x.Items())
	}
	alike(t, y, m, things)
	half := x.Len() / 2
	x.Cut(half)
	y.Cut(half)
	for _, th := range things {
		if x.Add(th) != y.Add(th) {
			t.Fatalf("Add(%q) unlike", th)
		}
	}
	if !slices.Equal(x.Items(), y.Items()) {
		t.Fatalf("%v and %v", x.Items(), y.Items())
	}
}

// P5.9: of an index of nothing too.
func TestTwinOfNothing(t *testing.T) {
	x, _ := made(t, 1, 2)
	x.Cut(0)
	y, ok := From(x.Items()...)
	if !ok || y.Len() != 0 || y.Add(4) != 0 {
		t.Error("From of no items")
	}
}

// P5.2 to P5.6: many things, so that the map and the row have grown often, cut and filled again.
func TestManyThings(t *testing.T) {
	const many = 200000
	x := New[int]()
	for i := range many {
		if x.Add(i*7) != i {
			t.Fatal("Add of", i)
		}
	}
	x.Cut(many / 2)
	for i := range many {
		n, ok := x.Find(i * 7)
		if th, at := x.At(i); i < many/2 && (n != i || !ok || th != i*7 || !at) || i >= many/2 && (n != 0 || ok || th != 0 || at) {
			t.Fatal("of", i, "found", n, ok, th, at)
		}
	}
	for i := range many {
		if th := (many - 1 - i) * 7; i < many/2 && x.Add(th) != many/2+i {
			t.Fatal("Add again of", th)
		}
	}
	if x.Len() != many {
		t.Error("holds", x.Len())
	}
}
