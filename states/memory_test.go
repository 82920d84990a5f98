package states

import (
	"math/rand"
	"reflect"
	"slices"
	"testing"

	"portage/api"
)

// withRoom is a copy of a list with room behind it in which something stands.
func withRoom[T any](l []T, more T) []T {
	return append(append([]T{}, l...), more, more)[:len(l)]
}

// roomy is a copy of a state all of whose lists have spare room that is filled.
func roomy(s api.State) api.State {
	s.Texts = withRoom(s.Texts, "room")
	s.Objects = withRoom(s.Objects, api.Object{Kind: 77})
	for k := range s.Objects {
		o := &s.Objects[k]
		o.Items, o.Keys = withRoom(o.Items, val(77, 77)), withRoom(o.Keys, 77)
	}
	s.Fibers = withRoom(s.Fibers, api.Fiber{})
	for k := range s.Fibers {
		l := withRoom(s.Fibers[k].Frames, frame(77, 77))
		for i := range l {
			l[i].Slots = withRoom(l[i].Slots, val(77, 77))
		}
		s.Fibers[k].Frames = l
	}
	return s
}

// whole is a copy of a list up to the end of its room.
func whole[T any](l []T) []T { return append([]T{}, l[:cap(l)]...) }

// unfolded is a copy of a state with all that lies in its lists' room.
func unfolded(s api.State) api.State {
	s.Texts, s.Objects, s.Fibers = whole(s.Texts), whole(s.Objects), whole(s.Fibers)
	for k := range s.Objects {
		s.Objects[k].Items, s.Objects[k].Keys = whole(s.Objects[k].Items), whole(s.Objects[k].Keys)
	}
	for k := range s.Fibers {
		l := whole(s.Fibers[k].Frames)
		for i := range l {
			l[i].Slots = whole(l[i].Slots)
		}
		s.Fibers[k].Frames = l
	}
	return s
}

// R4: no call changes a state that is handed in, its lists' spare room included, nor the program and the facts.
func TestArgumentsStay(t *testing.T) {
	p, f := yard(t)
	q, g := yard(t)
	r := rand.New(rand.NewSource(4))
	for range 3000 {
		s := roomy(drawn(r, p, f))
		before := unfolded(s)
		Check(p, f, s)
		Canon(s)
		Same(s, s)
		Safe(p, s)
		for k := range len(s.Fibers) {
			Blocked(p, s, k)
		}
		if !reflect.DeepEqual(unfolded(s), before) {
			t.Fatalf("%+v became %+v", before, unfolded(s))
		}
	}
	if !reflect.DeepEqual(p, q) || !reflect.DeepEqual(f, g) {
		t.Error("the program or the facts became", p, f)
	}
}

// scrawl writes over a list, all of its room and what is laid behind it.
func scrawl[T any](l []T, x T) {
	more := append(l, x)
	for i := range more[:cap(more)] {
		more[:cap(more)][i] = x
	}
	for i := range l[:cap(l)] {
		l[:cap(l)][i] = x
	}
}

// list is one list of a state: how it is written over, and what stands in it, without what stands in lists inside.
type list struct {
	write func()
	tell  func() any
}

// lists are all lists of a state, as it is now: they stay the same lists, whatever is written over later.
func lists(s api.State) []list {
	var l []list
	for _, v := range valueLists(&s) {
		l = append(l, list{func() { scrawl(v, val(50, 50)) }, func() any { return slices.Clone(v) }})
	}
	for _, o := range s.Objects {
		l = append(l, list{func() { scrawl(o.Keys, 50) }, func() any { return slices.Clone(o.Keys) }})
	}
	for _, fb := range s.Fibers {
		l = append(l, list{func() { scrawl(fb.Frames, frame(50, 50, nils(9)...)) }, func() any { return places(fb.Frames) }})
	}
	return append(l,
		list{func() { scrawl(s.Texts, "scrawled") }, func() any { return slices.Clone(s.Texts) }},
		list{func() { scrawl(s.Objects, api.Object{Kind: 50}) }, func() any { return objectKinds(s.Objects) }},
		list{func() { scrawl(s.Fibers, fiber(make([]api.Frame, 50)...)) }, func() any { return frameCounts(s.Fibers) }},
	)
}

func places(l []api.Frame) (out [][3]int) {
	for _, f := range l {
		out = append(out, [3]int{f.Fn, f.PC, len(f.Slots)})
	}
	return out
}

func objectKinds(l []api.Object) (out []int) {
	for _, o := range l {
		out = append(out, o.Kind)
	}
	return out
}

func frameCounts(l []api.Fiber) (out []int) {
	for _, f := range l {
		out = append(out, len(f.Frames))
	}
	return out
}

// toldLists is what stands in each list.
func toldLists(l []list) []any {
	var out []any
	for _, x := range l {
		out = append(out, x.tell())
	}
	return out
}

// R4: Canon's answer lies in no other memory: what is written over in one list, its room too, is not seen in another list, in another answer, or in the state.
func TestCanonIsNewMemory(t *testing.T) {
	p, f := yard(t)
	r := rand.New(rand.NewSource(44))
	for range 600 {
		s := roomy(drawn(r, p, f))
		before := unfolded(s)
		other := Canon(s)
		want := copied(other)
		for k := range lists(want) {
			l := lists(Canon(s))
			was := toldLists(l)
			l[k].write()
			if !equal(other, want) || !reflect.DeepEqual(unfolded(s), before) {
				t.Fatal("list", k, "lies in another answer, or in the state")
			}
			for i, now := range toldLists(l) {
				if i != k && !reflect.DeepEqual(now, was[i]) {
					t.Fatal("list", i, "lies in the memory of list", k)
				}
			}
		}
	}
}

// R4: what was handed in isn't kept: the answer stays when all of that is written over.
func TestCanonKeepsNothing(t *testing.T) {
	p, f := yard(t)
	r := rand.New(rand.NewSource(444))
	for range 3000 {
		s := roomy(drawn(r, p, f))
		c := Canon(s)
		want := copied(c)
		for _, l := range lists(s) {
			l.write()
		}
		if !equal(c, want) {
			t.Fatalf("%+v became %+v", want, c)
		}
	}
}
