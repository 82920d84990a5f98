package profile

import (
	"math"
	"math/rand"
	"slices"
	"testing"

	"portage/api"
)

// P18.1: every place about the edges, of lists of several lengths.
func TestAt(t *testing.T) {
	f := of(spots(api.Spot{Count: -1}, api.Spot{A: 65535}, api.Spot{Callee: -9}), nil, spots(api.Spot{Count: 7, B: 3}))
	for _, fn := range edges() {
		for _, pc := range edges() {
			if got, want := At(f, fn, pc), slowAt(f, fn, pc); got != want {
				t.Errorf("%d %d: %v, not %v", fn, pc, got, want)
			}
		}
	}
	for _, f := range []api.Profile{{}, of(), of(nil)} {
		if got := At(f, 0, 0); got != (api.Spot{}) {
			t.Error(got)
		}
	}
	if got := At(f, 5, 5); got != (api.Spot{}) {
		t.Error(got)
	}
}

// Words: all pairs of counts and of Callees about the edges.
func TestTogether(t *testing.T) {
	for _, x := range edges() {
		for _, y := range edges() {
			a, b := api.Spot{Count: int64(x), A: uint16(x), B: uint16(y), Callee: x}, api.Spot{Count: int64(y), A: uint16(y), B: uint16(y), Callee: y}
			got, want := Merge(of(spots(a)), of(spots(b))), of(spots(slowTogether(a, b)))
			if !alike(got, want) {
				t.Errorf("%v and %v: %v, not %v", a, b, got, want)
			}
		}
	}
}

// Words: sums at the very edges.
func TestCountsTogether(t *testing.T) {
	const most, least = math.MaxInt64, math.MinInt64
	for _, x := range [][3]int64{
		{most, 0, most}, {most, 1, most}, {most - 1, 1, most}, {most - 1, 2, most}, {most, most, most}, {most, least, -1}, {most, -1, most - 1},
		{least, 0, least}, {least, -1, least}, {least + 1, -1, least}, {least + 1, -2, least}, {least, least, least}, {least, 1, least + 1},
		{1 << 62, 1 << 62, most}, {1<<62 - 1, 1 << 62, most}, {1<<62 - 1, 1<<62 - 1, most - 1}, {-1 << 62, -1 << 62, least}, {-1<<62 - 1, -1 << 62, least}, {2, 3, 5},
	} {
		for range 2 {
			if got := Merge(of(spots(api.Spot{Count: x[0]})), of(spots(api.Spot{Count: x[1]}))); got.Funcs[0][0].Count != x[2] {
				t.Errorf("%d and %d: %v", x[0], x[1], got)
			}
			x[0], x[1] = x[1], x[0]
		}
	}
}

// P18.4: the longer list counts, of functions and of spots, on either side.
func TestMergeSizes(t *testing.T) {
	s := func(n int64) api.Spot { return api.Spot{Count: n} }
	for _, c := range []struct{ a, b, want api.Profile }{
		{of(), of(), of()},
		{of(nil), of(), of(nil)},
		{of(), of(nil, nil), of(nil, nil)},
		{of(spots(s(1), s(2))), of(), of(spots(s(1), s(2)))},
		{of(spots(s(1), s(2))), of(spots(s(10))), of(spots(s(11), s(2)))},
		{of(spots(s(1)), nil), of(spots(s(10), s(20)), spots(s(30))), of(spots(s(11), s(20)), spots(s(30)))},
		{of(nil, nil, spots(s(1))), of(spots(s(2))), of(spots(s(2)), nil, spots(s(1)))},
		{of(spots(api.Spot{})), of(nil, spots(api.Spot{}, api.Spot{})), of(spots(api.Spot{}), spots(api.Spot{}, api.Spot{}))},
	} {
		if got := Merge(c.a, c.b); !alike(got, c.want) {
			t.Errorf("%v and %v: %v", c.a, c.b, got)
		}
		if got := Merge(c.b, c.a); !alike(got, c.want) {
			t.Errorf("%v and %v: %v", c.b, c.a, got)
		}
	}
}

// P18.4, against the words.
func TestMergeAgainstTheWords(t *testing.T) {
	r := rand.New(rand.NewSource(184))
	for range 30000 {
		a, b := drawn(r, anySpot), drawn(r, anySpot)
		if got, want := Merge(a, b), slowMerge(a, b); !alike(got, want) {
			t.Fatalf("%v and %v: %v, not %v", a, b, got, want)
		}
	}
}

// P18.5: the chapter's example; functions without spots have the Count 0; only first spots matter.
func TestHot(t *testing.T) {
	first := func(l ...int64) api.Profile {
		var f api.Profile
		for _, n := range l {
			f.Funcs = append(f.Funcs, spots(api.Spot{Count: n, A: 3}, api.Spot{Count: 1 << 40}))
		}
		return f
	}
	for _, c := range []struct {
		f     api.Profile
		least int64
		want  []int
	}{
		{first(5, 9, 5), 5, []int{1, 0, 2}},
		{first(5, 9, 5), 6, []int{1}},
		{first(5, 9, 5), 9, []int{1}},
		{first(5, 9, 5), 10, nil},
		{first(5, 9, 5), math.MinInt64, []int{1, 0, 2}},
		{of(), math.MinInt64, nil},
		{of(nil, spots(api.Spot{Count: -1}), spots(api.Spot{Count: 1}), nil), 0, []int{2, 0, 3}},
		{of(nil, spots(api.Spot{Count: -1}), spots(api.Spot{Count: 1}), nil), -1, []int{2, 0, 3, 1}},
		{of(nil, spots(api.Spot{Count: -1}), spots(api.Spot{Count: 1}), nil), 1, []int{2}},
		{first(math.MinInt64, math.MaxInt64, 0, -1, 1), math.MinInt64, []int{1, 4, 2, 3, 0}},
		{first(math.MaxInt64, math.MaxInt64-1, math.MaxInt64), math.MaxInt64, []int{0, 2}},
	} {
		if got := Hot(c.f, c.least); !slices.Equal(got, c.want) {
			t.Errorf("%v from %d on: %v, not %v", c.f, c.least, got, c.want)
		}
	}
}

// P18.5, against the words, with many functions of the same Count.
func TestHotAgainstTheWords(t *testing.T) {
	r := rand.New(rand.NewSource(185))
	for range 2000 {
		var f api.Profile
		for range r.Intn(40) {
			f.Funcs = append(f.Funcs, spots(api.Spot{Count: int64(r.Intn(7) - 2)}, anySpot(r))[:r.Intn(3)])
		}
		if r.Intn(4) == 0 {
			f = drawn(r, anySpot)
		}
		least := int64(r.Intn(7) - 2)
		if r.Intn(8) == 0 {
			least = int64(pick(r, edges()))
		}
		if got, want := Hot(f, least), slowHot(f, least); !slices.Equal(got, want) {
			t.Fatalf("%v from %d on: %v, not %v", f, least, got, want)
		}
	}
}
