package intern

import (
	"iter"
	"slices"
	"testing"
)

// P5.7: a walk sees what came between All and itself, and each walk begins anew.
func TestWalkBeginsWhenCalled(t *testing.T) {
	x := New[string]()
	walk := x.All()
	count := func() (n int) {
		for i, s := range walk {
			if th, ok := x.At(i); i != n || th != s || !ok {
				t.Errorf("%d %q given as number %d", i, s, n)
			}
			n++
		}
		return n
	}
	if count() != 0 {
		t.Error("a walk through nothing")
	}
	x.Add("a")
	x.Add("b")
	if count() != 2 || count() != 2 {
		t.Error("a walk of two")
	}
	x.Cut(1)
	if count() != 1 {
		t.Error("a walk of one")
	}
	x.Cut(0)
	x.Add("c")
	x.Add("d")
	x.Add("e")
	if count() != 3 {
		t.Error("a walk of three")
	}
}

// P5.7: who has had enough is given nothing more, and the next walk goes whole.
func TestWalkStops(t *testing.T) {
	x, _ := made(t, 10, 11, 12, 13)
	walk := x.All()
	for enough := 1; enough <= 4; enough++ {
		var got []int
		walk(func(i, th int) bool {
			got = append(got, th)
			return len(got) < enough
		})
		if !slices.Equal(got, []int{10, 11, 12, 13}[:enough]) {
			t.Errorf("%d were enough, gave %v", enough, got)
		}
	}
	n := 0
	for range walk {
		n++
	}
	if n != 4 {
		t.Error("then gave", n)
	}
}

// P5.7: nothing is given behind the walk's end, though something was added by who had enough.
func TestWalkStopsWhileAdding(t *testing.T) {
	x, _ := made(t, "a", "b")
	for i, s := range x.All() {
		x.Add(s + s)
		if i == 1 {
			break
		}
	}
	alike(t, x, &model[string]{[]string{"a", "b", "aa", "bb"}}, nil)
}

// P5.7: what is added on the way isn't given.
func TestWalkDoesNotRunAfter(t *testing.T) {
	x, _ := made(t, 1, 2, 3)
	got := walked(x, func(i, th int) {
		x.Add(th + 100)
		x.Add(th + 200)
	})
	if !slices.Equal(got, []pair[int]{{0, 1}, {1, 2}, {2, 3}}) || x.Len() != 9 {
		t.Error("gave", got, "of", x.Len())
	}
}

// deed is what a walk's taker does at one thing: a cut, if its number isn't -2, then some new things.
type deed struct {
	cut, news int
}

// P5.7: every row of up to 4 things, walked with every two deeds on the way.
func TestWalkWhileChanged(t *testing.T) {
	var deeds []deed
	for cut := -2; cut < 6; cut++ {
		for news := range 4 {
			deeds = append(deeds, deed{cut, news})
		}
	}
	for n := range 5 {
		for _, a := range deeds {
			for _, b := range deeds {
				changed(t, n, []deed{a, b})
			}
		}
	}
}

// changed holds one walk against the document's words: at the thing whose number is i, deed i is done; behind them, none.
func changed(t *testing.T, n int, deeds []deed) {
	t.Helper()
	x, m := New[int](), &model[int]{}
	for i := range n {
		x.Add(i)
		m.add(i)
	}
	fresh, again := 100, 100
	got := walked(x, func(i, th int) {
		if i < len(deeds) {
			fresh = do(deeds[i], fresh, x.Cut, x.Add)
		}
	})
	want := m.walk(func(i, th int) {
		if i < len(deeds) {
			again = do(deeds[i], again, m.cut, m.add)
		}
	})
	if !slices.Equal(got, want) || !slices.Equal(x.Items(), m.row) {
		t.Fatalf("of %d with %v: gave %v, not %v; left %v, not %v", n, deeds, got, want, x.Items(), m.row)
	}
}

// do does a deed, with things from fresh on, and answers the next one.
func do(d deed, fresh int, cut func(int), add func(int) int) int {
	if d.cut > -2 {
		cut(d.cut)
	}
	for range d.news {
		add(fresh)
		fresh++
	}
	return fresh
}

// P5.7: a thing that was put in another's place is given, not the one that stood there at the beginning.
func TestWalkGivesWhatIsThere(t *testing.T) {
	x, _ := made(t, "a", "b", "c")
	got := walked(x, func(i int, s string) {
		if i == 0 {
			x.Cut(0)
			x.Add("x")
			x.Add("y")
		}
	})
	if !slices.Equal(got, []pair[string]{{0, "a"}, {1, "y"}}) {
		t.Error("gave", got)
	}
}

// P5.7: walks inside walks, of one walk's own function too.
func TestWalksInsideWalks(t *testing.T) {
	x, _ := made(t, 0, 1, 2)
	walk := x.All()
	n := 0
	for i := range walk {
		for j := range walk {
			for k, th := range x.All() {
				if n != i*9+j*3+k || th != k {
					t.Error(i, j, k, "given as", n)
				}
				n++
			}
		}
	}
	if n != 27 {
		t.Error("gave", n)
	}
}

// P5.7: an inner walk that cuts ends the outer one where the row ends then.
func TestInnerWalkCuts(t *testing.T) {
	x, _ := made(t, 0, 1, 2, 3)
	var outer []int
	for i := range x.All() {
		outer = append(outer, i)
		for j := range x.All() {
			if i == 1 && j == 1 {
				x.Cut(2)
			}
		}
	}
	if !slices.Equal(outer, []int{0, 1}) {
		t.Error("outer gave", outer)
	}
}

// P5.7: two walks that go by turns, one of them left ahead of its end.
func TestWalksByTurns(t *testing.T) {
	x, _ := made(t, "a", "b", "c")
	next, stop := iter.Pull2(x.All())
	other, leave := iter.Pull2(x.All())
	defer leave()
	for k, want := range []string{"a", "b"} {
		i, s, ok := next()
		j, u, also := other()
		if i != k || j != k || s != want || u != want || !ok || !also {
			t.Error(i, s, ok, j, u, also)
		}
	}
	stop()
	x.Add("d")
	if i, s, ok := other(); i != 2 || s != "c" || !ok {
		t.Error(i, s, ok)
	}
	if _, _, ok := other(); ok {
		t.Error("gave what came behind its beginning")
	}
}

// P5.7: one that walks and breaks down leaves the index as it was.
func TestWalkOfOneThatBreaksDown(t *testing.T) {
	x, m := made(t, 1, 2, 3)
	func() {
		defer func() { recover() }()
		for range x.All() {
			panic("enough")
		}
	}()
	alike(t, x, m, []int{1, 2, 3, 4})
}
