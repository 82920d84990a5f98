package states

import (
	"math/rand"
	"testing"

	"portage/api"
)

// P15.3: the smallest differences of every part of a state.
func TestSameParts(t *testing.T) {
	full := func() api.State {
		return api.State{
			Texts: []string{"a", "b"},
			Objects: []api.Object{
				{Kind: api.Record, Keys: []int64{0, 1}, Items: vals(val(api.Int, 1), arr(1))},
				array(txt(1)),
				{Kind: api.Bound, Fn: 1, Items: vals(val(api.Nil, 0))},
				{Kind: api.Chan, Cap: 2, Items: vals(val(api.Nil, 0))},
			},
			Fibers:  []api.Fiber{fiber(frame(1, 2, val(api.Record, 0), val(api.Bound, 2)), frame(2, 3, val(api.Chan, 3))), {}},
			Current: 1, Steps: 2, Spent: 3, Read: 4,
		}
	}
	if !Same(full(), full()) || !Same(api.State{}, api.State{}) || Same(full(), api.State{}) {
		t.Error("Same of the same")
	}
	for k, change := range []func(*api.State){
		func(s *api.State) { s.Current++ },
		func(s *api.State) { s.Steps++ },
		func(s *api.State) { s.Spent++ },
		func(s *api.State) { s.Read++ },
		func(s *api.State) { s.Texts[0] = "c" },
		func(s *api.State) { s.Texts[1] = "a" },
		func(s *api.State) { s.Fibers = s.Fibers[:1] },
		func(s *api.State) { s.Fibers = append(s.Fibers, api.Fiber{}) },
		func(s *api.State) { s.Fibers[0].Frames[0].Fn++ },
		func(s *api.State) { s.Fibers[0].Frames[1].PC++ },
		func(s *api.State) { s.Fibers[0].Frames = s.Fibers[0].Frames[:1] },
		func(s *api.State) { s.Fibers[0].Frames[1].Slots = nil },
		func(s *api.State) { s.Fibers[0].Frames[1].Slots[0].N = 4 },
		func(s *api.State) { s.Fibers[0].Frames[1].Slots[0].Kind = api.Int },
		func(s *api.State) { s.Fibers[0].Frames[1].Slots = append(s.Fibers[0].Frames[1].Slots, val(api.Nil, 0)) },
		func(s *api.State) { s.Objects[0].Items[0].N++ },
		func(s *api.State) { s.Objects[0].Items[0] = val(api.Real, 1) },
		func(s *api.State) { s.Objects[0].Keys[0] = 1 },
		func(s *api.State) { s.Objects[0].Keys = []int64{1, 0} },
		func(s *api.State) { s.Objects[0].Keys = []int64{0} },
		func(s *api.State) { s.Objects[0].Items = s.Objects[0].Items[:1] },
		func(s *api.State) { s.Objects[1].Items = append(s.Objects[1].Items, val(api.Nil, 0)) },
		func(s *api.State) { s.Objects[1].Items[0] = txt(0) },
		func(s *api.State) { s.Objects[1].Cap = 1 },
		func(s *api.State) { s.Objects[1].Keys = []int64{0} },
		func(s *api.State) { s.Objects[2].Fn = 2 },
		func(s *api.State) { s.Objects[2].Kind = api.Array },
		func(s *api.State) { s.Objects[3].Cap = 1 },
		func(s *api.State) { s.Objects[3].Shut = true },
		func(s *api.State) { s.Objects[3].Items = nil },
	} {
		s := full()
		change(&s)
		if Same(s, full()) || Same(full(), s) || !Same(s, s) {
			t.Errorf("change %d is not seen", k)
		}
	}
}

// P15.3, R3: a list that is nil and one that is empty are alike, inside too.
func TestSameEmptyLists(t *testing.T) {
	a := api.State{Objects: []api.Object{{Kind: api.Record}}, Fibers: []api.Fiber{fiber(frame(0, 0, val(api.Record, 0))), {}, fiber(frame(1, 1))}}
	b := copied(a)
	b.Texts = []string{}
	if b.Objects[0].Items == nil || b.Objects[0].Keys == nil || b.Fibers[1].Frames == nil || b.Fibers[2].Frames[0].Slots == nil {
		t.Fatal("the copy has nil lists")
	}
	if !Same(a, b) || !Same(b, a) || !Same(api.State{}, api.State{Texts: []string{}, Objects: []api.Object{}, Fibers: []api.Fiber{}}) {
		t.Error("an empty list is unlike nil")
	}
}

// P15.7: what is one thing on one side and two on the other is seen, though all else be alike.
func TestSameSharing(t *testing.T) {
	one, two := at(0, arr(0), arr(0)), at(0, arr(0), arr(1))
	one.Objects, two.Objects = []api.Object{array()}, []api.Object{array(), array()}
	if Same(one, two) || Same(two, one) {
		t.Error("an array that is there twice")
	}
	one.Objects, two.Objects = []api.Object{array(arr(0))}, []api.Object{array(arr(1)), array(arr(0))}
	if Same(one, two) || Same(two, one) {
		t.Error("two arrays that hold one another")
	}
	other := at(0, arr(1), arr(0))
	other.Objects = []api.Object{array(arr(1)), array(arr(0))}
	if !Same(two, other) {
		t.Error("the same two by other numbers")
	}
	other.Objects = []api.Object{array(arr(0)), array(arr(1))}
	if Same(two, other) {
		t.Error("two arrays, each of which holds itself")
	}
}

// small are all states of one frame with two slots, two texts and two arrays of up to one value.
func small() []api.State {
	values := vals(val(api.Nil, 0), txt(0), txt(1), arr(0), arr(1))
	objects := []api.Object{array()}
	for _, v := range values {
		objects = append(objects, array(v))
	}
	var l []api.State
	for _, a := range values {
		for _, b := range values {
			for _, o := range objects {
				for _, u := range objects {
					s := at(0, a, b)
					s.Texts, s.Objects = []string{"x", "y"}, []api.Object{o, u}
					l = append(l, s)
				}
			}
		}
	}
	return l
}

// P15.2, P15.3, P15.7: all pairs of small states.
func TestSameOfAllSmallStates(t *testing.T) {
	l := small()
	p, f := verified(t, "func main 0 2\nagain:\njump again")
	for _, s := range l {
		if Check(p, f, s) != api.OK || !equal(Canon(s), canon(s)) {
			t.Fatalf("%+v: %v %+v", s, Check(p, f, s), Canon(s))
		}
	}
	same := 0
	for i, a := range l {
		for _, b := range l[i:] {
			got := Same(a, b)
			if got != sideBySide(a, b) {
				t.Fatalf("%+v, %+v: Same is %v", a, b, got)
			}
			if got {
				same++
			}
		}
	}
	if same <= len(l) {
		t.Error("no two are the same")
	}
}

// P15.7: pairs of right states, in one of which numbers are others, and a thing or two may be.
func TestSameSideBySide(t *testing.T) {
	p, f := yard(t)
	r := rand.New(rand.NewSource(157))
	same, other := 0, 0
	for range 20000 {
		a := made(r, p, f)
		b := moved(r, a)
		if r.Intn(4) > 0 {
			spoil(r, &b)
		}
		if Check(p, f, b) != api.OK {
			continue
		}
		want := sideBySide(a, b)
		if Same(a, b) != want || Same(b, a) != want || sideBySide(b, a) != want {
			t.Fatalf("%+v, %+v: Same is %v", a, b, Same(a, b))
		}
		if want {
			same++
		} else {
			other++
		}
	}
	if same < 1000 || other < 1000 {
		t.Error(same, other)
	}
}
