package heap

import (
	"slices"
	"testing"

	"portage/api"
)

// spare is a list with room behind it in which something stands.
func spare(n int) []api.Value {
	return nums(1, n+4)[:n]
}

// scrawl writes over a list and its spare room.
func scrawl(l []api.Value) {
	l = l[:cap(l)]
	for i := range l {
		l[i] = num(-77)
	}
}

// R4: lists that are handed in aren't kept and aren't changed, their spare room included.
func TestKeepsNoItems(t *testing.T) {
	for n := range 4 {
		h := New(1000, 0)
		l, b := spare(n), spare(n)
		a, _ := h.Array(l)
		h.Bound(1, b)
		h.Push(a, num(50))
		h.Set(a, 0, num(51))
		if !slices.Equal(l[:n+4], nums(1, n+4)) || !slices.Equal(b[:n+4], nums(1, n+4)) {
			t.Error("the lists became", l[:n+4], b[:n+4])
		}
		scrawl(l)
		scrawl(b)
		want := append(nums(1, n), num(50))
		want[0] = num(51)
		holds(t, h, h.Spent(), api.Object{Kind: api.Array, Items: want}, api.Object{Kind: api.Bound, Fn: 1, Items: nums(1, n)})
	}
}

// R4: two objects made of one list share nothing.
func TestObjectsShareNothing(t *testing.T) {
	h := New(1000, 0)
	l := spare(2)
	a, _ := h.Array(l)
	b, _ := h.Array(l)
	h.Bound(0, l)
	h.Set(a, 0, num(8))
	h.Push(a, num(9))
	h.Push(b, num(10))
	holds(t, h, h.Spent(),
		api.Object{Kind: api.Array, Items: row(num(8), num(2), num(9))},
		api.Object{Kind: api.Array, Items: row(num(1), num(2), num(10))},
		api.Object{Kind: api.Bound, Items: nums(1, 2)})
}

// R4: what Load is given goes its own way, lists inside and spare room too.
func TestLoadKeepsNoLists(t *testing.T) {
	l := each()
	for i := range l {
		l[i].Items = spare(2)
	}
	keys := []int64{5, 3, 70, 71}
	l[1].Keys = keys[:2]
	list := append(l, api.Object{Kind: 99})[:4]
	h := loaded(t, 100, 0, list...)
	h.Push(named(api.Array, 0), num(9))
	h.SetField(named(api.Record, 1), 8, num(9))
	h.Delete(named(api.Record, 1), 5)
	h.Send(named(api.Chan, 3), num(9))
	h.Recv(named(api.Chan, 3))
	h.Array(nil)
	for i, o := range list {
		if !slices.Equal(o.Items[:6], nums(1, 6)) {
			t.Errorf("object %d became %v", i, o.Items[:6])
		}
	}
	if !slices.Equal(keys, []int64{5, 3, 70, 71}) || list[:5][4].Kind != 99 {
		t.Error("the keys became", keys)
	}
	before := told(h)
	for i := range list {
		scrawl(list[i].Items)
		list[i].Kind = 0
	}
	copy(keys, []int64{9, 9, 9, 9})
	if !slices.EqualFunc(told(h), before, same) {
		t.Error("the heap changed with what it was given:", told(h))
	}
}

// R4: keys that come unsorted stay so in the list that is handed in.
func TestLoadSortsNothing(t *testing.T) {
	o := api.Object{Kind: api.Record, Keys: []int64{9, 2, 5}, Items: nums(1, 3)}
	h := loaded(t, 0, 0, o)
	holds(t, h, 0, o)
	if !slices.Equal(o.Keys, []int64{9, 2, 5}) {
		t.Error("the keys became", o.Keys)
	}
}

// R4: an object that is told is the asker's own.
func TestObjectIsNewMemory(t *testing.T) {
	h := loaded(t, 100, 0, each()...)
	h.Push(named(api.Array, 0), num(9))
	h.SetField(named(api.Record, 1), 8, num(9))
	h.Recv(named(api.Chan, 3))
	h.Delete(named(api.Record, 1), 5)
	first, want := told(h), []api.Object{
		{Kind: api.Array, Items: row(num(1), num(2), num(9))},
		{Kind: api.Record, Keys: []int64{3, 8}, Items: row(num(2), num(9))},
		{Kind: api.Bound, Fn: 2, Items: nums(1, 2)},
		{Kind: api.Chan, Cap: 3, Items: nums(2, 1)},
	}
	for i := range want {
		a, _ := h.Object(i)
		b, _ := h.Object(i)
		scrawl(a.Items)
		for k := range a.Keys[:cap(a.Keys)] {
			a.Keys[:cap(a.Keys)][k] = -7
		}
		if !same(b, want[i]) {
			t.Errorf("two answers share memory: %v", b)
		}
		if c, _ := h.Object(i); !same(c, want[i]) {
			t.Errorf("object %d became %v", i, c)
		}
	}
	h.Set(named(api.Array, 0), 0, num(60))
	h.SetField(named(api.Record, 1), 3, num(60))
	h.Send(named(api.Chan, 3), num(60))
	h.Send(named(api.Chan, 3), num(61))
	h.Recv(named(api.Chan, 3))
	if !slices.EqualFunc(first, want, same) {
		t.Error("an answer changed with the heap, or with another:", first)
	}
}

// R4: Reach's list is new, and roots stay as they are.
func TestReachIsNewMemory(t *testing.T) {
	h := four(t)
	roots := row(named(api.Chan, 3), named(api.Array, 0), named(api.Bound, 2), num(5))[:2]
	a, b := h.Reach(roots), h.Reach(roots)
	for i := range a[:cap(a)] {
		a[:cap(a)][i] = 99
	}
	if !slices.Equal(b, []int{3, 0}) || !slices.Equal(h.Reach(roots), []int{3, 0}) {
		t.Error("two answers share memory:", b)
	}
	if !slices.Equal(roots[:4], row(named(api.Chan, 3), named(api.Array, 0), named(api.Bound, 2), num(5))) {
		t.Error("roots became", roots[:4])
	}
}

// R5: two heaps know nothing of one another.
func TestHeapsAreApart(t *testing.T) {
	l := each()
	g, h := loaded(t, 50, 0, l...), loaded(t, 50, 0, l...)
	g.Push(named(api.Array, 0), num(5))
	g.SetField(named(api.Record, 1), 5, num(5))
	g.Shut(named(api.Chan, 3))
	g.Recv(named(api.Chan, 3))
	g.Record()
	holds(t, h, 0, each()...)
}
