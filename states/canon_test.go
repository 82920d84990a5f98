package states

import (
	"math"
	"math/rand"
	"slices"
	"testing"

	"portage/api"
)

// told holds Canon to a state, the model too.
func told(t *testing.T, s, want api.State) {
	t.Helper()
	if got := Canon(s); !equal(got, want) {
		t.Errorf("%+v: Canon is %+v, not %+v", s, got, want)
	}
	if !equal(canon(s), want) {
		t.Errorf("%+v: the model says %+v", s, canon(s))
	}
}

// P15.2: the chapter's examples.
func TestCanonExamples(t *testing.T) {
	s := at(2, arr(1))
	s.Texts, s.Objects = []string{"x", "y"}, []api.Object{array(txt(0), arr(1)), array(arr(0))}
	want := at(2, arr(0))
	want.Texts, want.Objects = []string{"x"}, []api.Object{array(arr(1)), array(txt(0), arr(0))}
	told(t, s, want)
	s.Fibers = at(2, txt(1)).Fibers
	want = at(2, txt(0))
	want.Texts = []string{"y"}
	told(t, s, want)
	told(t, at(2, txt(7)), at(2, txt(7)))
	told(t, api.State{}, api.State{})
}

// P15.2: the slots are gone through fiber by fiber, frame by frame, slot by slot, and all of them ahead of any object.
func TestCanonSlotsFirst(t *testing.T) {
	s := api.State{
		Texts:   []string{"a", "b", "c", "d", "e", "f"},
		Objects: []api.Object{array(txt(5)), array(txt(4), arr(2)), array(txt(3))},
		Fibers: []api.Fiber{
			fiber(frame(1, 1, txt(2), arr(1)), frame(2, 2, txt(1))),
			{},
			fiber(frame(3, 3, txt(0), arr(0), txt(2), arr(1))),
		},
		Current: 2, Steps: 3, Spent: 4, Read: 5,
	}
	want := api.State{
		Texts:   []string{"c", "b", "a", "e", "f", "d"},
		Objects: []api.Object{array(txt(3), arr(2)), array(txt(4)), array(txt(5))},
		Fibers: []api.Fiber{
			fiber(frame(1, 1, txt(0), arr(0)), frame(2, 2, txt(1))),
			{},
			fiber(frame(3, 3, txt(2), arr(1), txt(0), arr(0))),
		},
		Current: 2, Steps: 3, Spent: 4, Read: 5,
	}
	told(t, s, want)
	told(t, want, want)
}

// P15.2: objects are gone through in the order in which they are met, not the last one first, nor each one's own at once.
func TestCanonBreadthFirst(t *testing.T) {
	s := at(0, arr(6))
	s.Texts = []string{"0", "1", "2", "3", "4", "5", "6"}
	for k := range 7 {
		l := vals(txt(int64(k)))
		for _, n := range [][]int{{}, {}, {}, {}, {1, 0}, {3, 2}, {5, 4}}[k] {
			l = append(l, arr(int64(n)))
		}
		s.Objects = append(s.Objects, array(l...))
	}
	want := at(0, arr(0))
	want.Texts = []string{"6", "5", "4", "3", "2", "1", "0"}
	for k := range 7 {
		l := vals(txt(int64(k)))
		for _, n := range [][]int{{1, 2}, {3, 4}, {5, 6}, {}, {}, {}, {}}[k] {
			l = append(l, arr(int64(n)))
		}
		want.Objects = append(want.Objects, array(l...))
	}
	told(t, s, want)
}

// P15.2: of a record the key and then the value; keys or items that are over stand by themselves.
func TestCanonRecords(t *testing.T) {
	rec := val(api.Record, 0)
	for _, c := range []struct {
		keys, items string
		met         string
	}{
		{"", "", ""}, {"ab", "cd", "acbd"}, {"abc", "d", "adbc"}, {"d", "abc", "dabc"}, {"abcd", "", "abcd"}, {"", "abcd", "abcd"},
		{"aab", "abc", "abc"}, {"dc", "dc", "dc"}, {"ba", "ca", "bca"},
	} {
		o := api.Object{Kind: api.Record}
		want := api.Object{Kind: api.Record}
		for _, x := range c.keys {
			o.Keys = append(o.Keys, int64(x-'a'))
			want.Keys = append(want.Keys, int64(slices.Index([]rune(c.met), x)))
		}
		for _, x := range c.items {
			o.Items = append(o.Items, txt(int64(x-'a')))
			want.Items = append(want.Items, txt(int64(slices.Index([]rune(c.met), x))))
		}
		s, then := at(0, rec), at(0, rec)
		s.Texts, s.Objects = []string{"a", "b", "c", "d"}, []api.Object{o}
		then.Objects = []api.Object{want}
		for _, x := range c.met {
			then.Texts = append(then.Texts, string(x))
		}
		told(t, s, then)
	}
}

// P15.2: keys of other objects, and numbers of functions, are only numbers.
func TestCanonKeysOfOthers(t *testing.T) {
	for _, kind := range []int{api.Array, api.Bound, api.Chan} {
		o := api.Object{Kind: kind, Keys: []int64{1, 0}, Items: vals(txt(2), val(api.Func, 1), val(api.Int, 1)), Fn: 1, Cap: -4, Shut: true}
		s := at(0, val(kind, 1))
		s.Texts, s.Objects = []string{"a", "b", "c"}, []api.Object{{Kind: kind}, o}
		want := at(0, val(kind, 0))
		o.Items = vals(txt(0), val(api.Func, 1), val(api.Int, 1))
		want.Texts, want.Objects = []string{"c"}, []api.Object{o}
		told(t, s, want)
	}
}

// P15.2: numbers that name nothing stay, also where a text or an object has that number by now.
func TestCanonOfNothing(t *testing.T) {
	s := at(0, val(api.Record, 1), val(api.Array, 2), arr(1), txt(3), txt(2), txt(-1), arr(-1), arr(math.MaxInt64), txt(math.MinInt64), val(42, 1), val(-1, 0), val(api.Int, 1))
	s.Texts = []string{"a", "b", "c"}
	s.Objects = []api.Object{array(), array(txt(9), txt(1), val(api.Chan, 0)), {Kind: api.Record, Keys: []int64{3, -1, 0}}, {Kind: 42, Items: vals(txt(0))}}
	want := at(0, val(api.Record, 1), val(api.Array, 2), arr(0), txt(3), txt(0), txt(-1), arr(-1), arr(math.MaxInt64), txt(math.MinInt64), val(42, 1), val(-1, 0), val(api.Int, 1))
	want.Texts = []string{"c", "b"}
	want.Objects = []api.Object{array(txt(9), txt(1), val(api.Chan, 0))}
	told(t, s, want)
	s.Fibers = at(0, val(api.Record, 2), val(42, 3)).Fibers
	want = at(0, val(api.Record, 0), val(42, 3))
	want.Texts = []string{"a"}
	want.Objects = []api.Object{{Kind: api.Record, Keys: []int64{3, -1, 0}}}
	told(t, s, want)
}

// P15.2: two numbers are two texts, though the texts be alike.
func TestCanonTwins(t *testing.T) {
	s := at(0, txt(1), txt(0), txt(1))
	s.Texts = []string{"x", "x"}
	told(t, s, api.State{Texts: []string{"x", "x"}, Fibers: at(0, txt(0), txt(1), txt(0)).Fibers})
}

// P15.2: counts, places and empty fibers are as they are, whatever they are.
func TestCanonKeepsTheRest(t *testing.T) {
	for _, n := range edges() {
		s := api.State{Fibers: []api.Fiber{{}, fiber(frame(n, 1), frame(2, n)), {}}, Current: n, Steps: n + 1, Spent: n + 2, Read: n + 3}
		told(t, s, s)
	}
}

// P15.2, P15.3: states that may be anything.
func TestCanonDrawn(t *testing.T) {
	p, f := yard(t)
	r := rand.New(rand.NewSource(152))
	for range 20000 {
		s := drawn(r, p, f)
		want := canon(s)
		if got := Canon(s); !equal(got, want) {
			t.Fatalf("%+v: Canon is %+v, not %+v", s, got, want)
		}
		b := copied(s)
		if r.Intn(2) == 0 {
			spoil(r, &b)
		}
		if got := Same(s, b); got != equal(want, canon(b)) {
			t.Fatalf("%+v, %+v: Same is %v", s, b, got)
		}
	}
}
