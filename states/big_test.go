package states

import (
	"strconv"
	"testing"

	"portage/api"
)

// R1: a long way from object to object, and back to the first, in the order against their numbers.
func TestLongWay(t *testing.T) {
	p, f := example(t)
	const n = 300000
	s := at(2, arr(n-1))
	for k := range n {
		s.Texts = append(s.Texts, strconv.Itoa(k))
		s.Objects = append(s.Objects, array(txt(int64(k)), arr(int64((k+n-1)%n))))
	}
	if err := Check(p, f, s); err != api.OK {
		t.Fatal(err)
	}
	c := Canon(s)
	if len(c.Texts) != n || len(c.Objects) != n || c.Fibers[0].Frames[0].Slots[0] != arr(0) {
		t.Fatal(len(c.Texts), len(c.Objects))
	}
	for k := range n {
		if o := c.Objects[k]; c.Texts[k] != strconv.Itoa(n-1-k) || o.Items[0] != txt(int64(k)) || o.Items[1] != arr(int64((k+1)%n)) {
			t.Fatal(k, c.Texts[k], o)
		}
	}
	if !Same(s, c) || Check(p, f, c) != api.OK {
		t.Error("Same, Check")
	}
	c.Objects[n-1].Items[1] = arr(1)
	if Same(s, c) {
		t.Error("the last one leads to the second")
	}
}

// R1: the greatest objects, and as many fibers and frames as there may be, with texts and objects that are named over and over.
func TestGreatestState(t *testing.T) {
	p, f := yard(t)
	s := api.State{Steps: api.MaxFuel, Spent: api.MaxBudget, Read: api.MaxInput, Current: api.MaxFibers - 1}
	for k := range 300 {
		s.Texts = append(s.Texts, strconv.Itoa(k))
	}
	for range 64 {
		var l []api.Value
		for k := range api.MaxItems {
			l = append(l, arr(int64(k%64)))
		}
		s.Objects = append(s.Objects, array(l...))
	}
	record := api.Object{Kind: api.Record}
	for k := range api.MaxFields {
		record.Keys = append(record.Keys, int64(k))
		record.Items = append(record.Items, txt(int64(299-k)))
	}
	s.Objects = append(s.Objects, record)
	for k := range api.MaxFibers {
		var fb api.Fiber
		for range api.MaxFrames - 1 {
			fb.Frames = append(fb.Frames, frame(yardSum, sumCall, arr(int64(k)), txt(int64(k)), val(api.Record, 64), arr(63), txt(0)))
		}
		s.Fibers = append(s.Fibers, fiber(append(fb.Frames, frame(yardBare, 0))...))
	}
	if err := Check(p, f, s); err != api.OK {
		t.Fatal(err)
	}
	c := Canon(s)
	if Check(p, f, c) != api.OK || !Same(s, c) || !equal(Canon(c), c) || len(c.Objects) != 65 || len(c.Texts) != 300 {
		t.Error("Canon of the greatest")
	}
	s.Fibers[31].Frames[98].Slots[4] = txt(300)
	if Check(p, f, s) != api.ErrState {
		t.Error("the last slot names nothing")
	}
}
