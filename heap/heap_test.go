package heap

import (
	"math"
	"slices"
	"testing"

	"portage/api"
)

// The chapter's examples, one call behind the other.
func TestExamples(t *testing.T) {
	h := New(10, 0)
	spent := func(n int) {
		t.Helper()
		if h.Spent() != n {
			t.Errorf("%d spent, not %d", h.Spent(), n)
		}
	}
	a, c, r := named(api.Array, 0), named(api.Chan, 1), named(api.Record, 2)
	if v, ok := h.Array(row(num(7))); v != a || !ok {
		t.Error("Array", v, ok)
	}
	spent(3)
	if v, ok := h.Chan(1); v != c || !ok {
		t.Error("Chan", v, ok)
	}
	spent(6)
	if trap, ok := h.Push(a, c); trap != 0 || !ok {
		t.Error("Push", trap, ok)
	}
	if ok, trap := h.Send(c, a); !ok || trap != 0 {
		t.Error("Send", ok, trap)
	}
	if ok, trap := h.Send(c, api.Value{}); ok || trap != 0 {
		t.Error("Send to a full one", ok, trap)
	}
	if v, trap := h.Get(a, 2); v != (api.Value{}) || trap != api.TrapIndex {
		t.Error("Get 2", v, trap)
	}
	if v, trap := h.Get(named(api.Array, 1), 0); v != (api.Value{}) || trap != api.TrapType {
		t.Error("Get of array 1", v, trap)
	}
	if v, ok := h.Bound(0, nums(1, 2)); v != (api.Value{}) || ok {
		t.Error("Bound", v, ok)
	}
	spent(7)
	if v, ok := h.Record(); v != r || !ok {
		t.Error("Record", v, ok)
	}
	if trap, ok := h.SetField(r, 5, named(api.Bool, 1)); trap != 0 || ok {
		t.Error("SetField", trap, ok)
	}
	if l := h.Reach(row(c, api.Value{})); !slices.Equal(l, []int{1, 0}) {
		t.Error("Reach", l)
	}
	if trap := h.Shut(c); trap != 0 {
		t.Error("Shut", trap)
	}
	if v, ok, trap := h.Recv(c); v != a || !ok || trap != 0 {
		t.Error("Recv", v, ok, trap)
	}
	if v, ok, trap := h.Recv(c); v != (api.Value{}) || !ok || trap != 0 {
		t.Error("Recv of nothing", v, ok, trap)
	}
	spent(9)
	if h.Spend(2) || !h.Spend(1) || !h.Spend(0) || h.Spend(-1) {
		t.Error("Spend")
	}
	spent(10)
}

// P6.1: what is below 0 counts as 0.
func TestNew(t *testing.T) {
	for _, budget := range []int{math.MinInt, -1, 0, 1, 7, math.MaxInt} {
		for _, spent := range []int{math.MinInt, -1, 0, 1, 7, 8, math.MaxInt} {
			h := New(budget, spent)
			holds(t, h, max(spent, 0))
			left := max(budget, 0) - max(spent, 0)
			if h.Spend(0) != (left >= 0) || h.Spend(left) != (left >= 0) || h.Spend(1) {
				t.Errorf("New(%d, %d)", budget, spent)
			}
			holds(t, h, max(spent, budget, 0))
		}
	}
}

// P6.2: so much as is left, and no more; no sum wraps.
func TestSpend(t *testing.T) {
	for _, budget := range []int{0, 1, 5, math.MaxInt - 1, math.MaxInt} {
		for _, spent := range []int{0, 1, 5, 6, math.MaxInt - 1, math.MaxInt} {
			for _, n := range []int{math.MinInt, math.MinInt + 1, -5, -1, 0, 1, 4, 5, 6, math.MaxInt - 1, math.MaxInt} {
				h, m := New(budget, spent), newModel(budget, spent)
				if got, want := h.Spend(n), m.Spend(n); got != want {
					t.Errorf("of %d, with %d spent: Spend(%d) = %v", budget, spent, n, got)
				}
				alike(t, h, m)
			}
		}
	}
}

// maker is one way to make an object, what it costs, and what it makes; a cost below 0: it can't be made.
type maker struct {
	name string
	make func(h *Heap) (api.Value, bool)
	cost int
	made api.Object
}

func makers() (l []maker) {
	for _, n := range []int{0, 1, 2, 255, 256, 257, 4095, 4096, 4097, 5000} {
		items, cost := nums(1, n), 2+n
		if n > 4096 {
			cost = -1
		}
		l = append(l, maker{"array", func(h *Heap) (api.Value, bool) { return h.Array(items) }, cost, api.Object{Kind: api.Array, Items: items}})
		for _, fn := range []int{0, 1, 127, 128, math.MaxInt} {
			l = append(l, maker{"bound", func(h *Heap) (api.Value, bool) { return h.Bound(fn, items) }, cost, api.Object{Kind: api.Bound, Fn: fn, Items: items}})
		}
		for _, fn := range []int{-1, -2, math.MinInt} {
			l = append(l, maker{"bound below 0", func(h *Heap) (api.Value, bool) { return h.Bound(fn, items) }, -1, api.Object{}})
		}
	}
	for _, n := range []int{math.MinInt, -1, 0, 1, 2, 63, 64, 65, math.MaxInt} {
		cost := 2 + n
		if n < 1 || n > 64 {
			cost = -1
		}
		l = append(l, maker{"chan", func(h *Heap) (api.Value, bool) { return h.Chan(n) }, cost, api.Object{Kind: api.Chan, Cap: n}})
	}
	return append(l, maker{"record", (*Heap).Record, 2, api.Object{Kind: api.Record}})
}

// P6.3: each is made where there is just room for it, and isn't where 1 is missing; then nothing has changed.
func TestMakers(t *testing.T) {
	other := api.Object{Kind: api.Array, Items: nums(1, 2)}
	for _, m := range makers() {
		for _, room := range []int{m.cost, m.cost + 1, m.cost - 1, 0, 1, math.MaxInt - 7} {
			h := loaded(t, 7+max(room, 0), 7, other)
			v, ok := m.make(h)
			if want := m.cost >= 0 && m.cost <= room; ok != want {
				t.Fatalf("%s of cost %d in a room of %d: %v", m.name, m.cost, room, ok)
			}
			if !ok {
				if v != (api.Value{}) {
					t.Errorf("%s that isn't made is %v", m.name, v)
				}
				holds(t, h, 7, other)
				continue
			}
			if v != named(m.made.Kind, 1) {
				t.Errorf("%s is %v", m.name, v)
			}
			holds(t, h, 7+m.cost, other, m.made)
		}
		h := New(3, 4)
		if v, ok := m.make(h); ok || v != (api.Value{}) {
			t.Errorf("%s where more is spent than there is: %v", m.name, v)
		}
		holds(t, h, 4)
	}
}

// P6.3, P6.4: numbers go on from 0, whatever the kinds, and none is used up by what isn't made.
func TestNumbers(t *testing.T) {
	h, n := New(math.MaxInt, 0), 0
	var objects []api.Object
	for range 3 {
		for _, m := range makers() {
			v, ok := m.make(h)
			if !ok {
				continue
			}
			if v != named(m.made.Kind, n) || h.Len() != n+1 {
				t.Fatalf("%s is %v of %d", m.name, v, h.Len())
			}
			objects = append(objects, m.made)
			n++
		}
	}
	holds(t, h, h.Spent(), objects...)
}

// P6.3: values that are handed in are not looked at.
func TestKeptAsTheyAre(t *testing.T) {
	odd := row(named(-1, -1), named(99, 3), named(api.Bool, 7), named(api.Nil, 1), named(api.Array, 55), named(api.Text, -3), api.Value{Kind: math.MinInt, N: math.MinInt64}, api.Value{Kind: api.Real, N: -1})
	h := New(1000, 0)
	a, _ := h.Array(odd)
	h.Bound(math.MaxInt, odd)
	r, _ := h.Record()
	c, _ := h.Chan(8)
	var keys []int64
	for i, x := range odd {
		h.Push(a, x)
		h.Set(a, int64(i), odd[len(odd)-1-i])
		h.SetField(r, -x.N, x)
		h.Send(c, x)
		if !slices.Contains(keys, -x.N) {
			keys = append(keys, -x.N)
		}
	}
	back := slices.Clone(odd)
	slices.Reverse(back)
	want := newModel(1000, 0)
	wr, _ := want.Record()
	for _, x := range odd {
		want.SetField(wr, -x.N, x)
	}
	holds(t, h, h.Spent(),
		api.Object{Kind: api.Array, Items: append(back, odd...)},
		api.Object{Kind: api.Bound, Fn: math.MaxInt, Items: odd},
		api.Object{Kind: api.Record, Keys: keys, Items: want.objects[0].Items},
		api.Object{Kind: api.Chan, Cap: 8, Items: odd})
}

// P6.6: of the four kinds one has no size.
func TestSize(t *testing.T) {
	for kind := api.Array; kind <= api.Chan; kind++ {
		h := four(t)
		n, trap := h.Size(named(kind, kind-api.Array))
		if kind == api.Bound && (n != 0 || trap != api.TrapType) || kind != api.Bound && (n != 1 || trap != 0) {
			t.Errorf("Size of kind %d: %d %d", kind, n, trap)
		}
		for _, v := range strangers(kind) {
			if v.N == int64(v.Kind-api.Array) && v.Kind >= api.Array && v.Kind <= api.Chan {
				continue
			}
			if n, trap := h.Size(v); n != 0 || trap != api.TrapType {
				t.Errorf("Size(%v) = %d %d", v, n, trap)
			}
		}
		alike(t, h, four(t))
	}
}

// P6.6: sizes from nothing to the limits, and as they change.
func TestSizes(t *testing.T) {
	h := New(math.MaxInt, 0)
	a, _ := h.Array(nil)
	r, _ := h.Record()
	c, _ := h.Chan(64)
	size := func(v api.Value, n int) {
		t.Helper()
		if got, trap := h.Size(v); got != int64(n) || trap != 0 {
			t.Fatalf("Size(%v) = %d %d, not %d", v, got, trap, n)
		}
	}
	for i := range 4100 {
		size(a, min(i, 4096))
		size(r, min(i, 256))
		size(c, min(i, 64))
		h.Push(a, num(1))
		h.SetField(r, int64(i), num(1))
		h.Send(c, num(1))
	}
	h.Shut(c)
	size(c, 64)
	h.Recv(c)
	size(c, 63)
	h.Delete(r, 3)
	size(r, 255)
}

// Where more is spent than the budget has, what costs nothing is done as ever, and what costs is not.
func TestMoreSpentThanThereIs(t *testing.T) {
	l := told(four(t))
	h := loaded(t, 3, 4, l...)
	a, r, c := named(api.Array, 0), named(api.Record, 1), named(api.Chan, 3)
	if h.Set(a, 0, num(1)) != 0 || h.Shut(c) != 0 {
		t.Error("Set, Shut")
	}
	if trap, ok := h.SetField(r, 5, num(2)); trap != 0 || !ok {
		t.Error("SetField of an old key", trap, ok)
	}
	if v, ok, trap := h.Recv(c); v != num(40) || !ok || trap != 0 {
		t.Error("Recv", v, ok, trap)
	}
	if trap, ok := h.Push(a, num(2)); trap != 0 || ok {
		t.Error("Push", trap, ok)
	}
	if trap, ok := h.SetField(r, 6, num(2)); trap != 0 || ok {
		t.Error("SetField of a new key", trap, ok)
	}
	if v, trap, ok := h.Keys(r); v != (api.Value{}) || trap != 0 || ok {
		t.Error("Keys", v, trap, ok)
	}
	if h.Delete(r, 5) != 0 || h.Spend(0) {
		t.Error("Delete, Spend")
	}
	l[0].Items, l[1].Items, l[1].Keys, l[3].Items, l[3].Shut = row(num(1)), nil, nil, nil, true
	holds(t, h, 4, l...)
}
