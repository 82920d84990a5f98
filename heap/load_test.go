package heap

import (
	"math"
	"testing"

	"portage/api"
)

// refused asks that these objects are not taken.
func refused(t *testing.T, l ...api.Object) {
	t.Helper()
	if h, ok := Load(1000, 0, l); ok || h != nil {
		t.Errorf("taken: %v", l)
	}
}

// each is one right object of each kind; they may stand in one list in this order.
func each() []api.Object {
	return []api.Object{
		{Kind: api.Array, Items: nums(1, 2)},
		{Kind: api.Record, Keys: []int64{5, 3}, Items: nums(1, 2)},
		{Kind: api.Bound, Fn: 2, Items: nums(1, 2)},
		{Kind: api.Chan, Cap: 3, Items: nums(1, 2)},
	}
}

// with is each, the object of a kind changed.
func with(kind int, change func(o *api.Object)) []api.Object {
	l := each()
	change(&l[kind-api.Array])
	return l
}

// P6.9: objects are taken as they are, in their order; budget and spent are as in New.
func TestLoadTakes(t *testing.T) {
	for _, budget := range []int{math.MinInt, -1, 0, 5, math.MaxInt} {
		for _, spent := range []int{math.MinInt, -1, 0, 5, 6, math.MaxInt} {
			h := loaded(t, budget, spent, each()...)
			holds(t, h, max(spent, 0), each()...)
			if left := max(budget, 0) - max(spent, 0); h.Spend(0) != (left >= 0) || h.Spend(left) != (left >= 0) || h.Spend(1) {
				t.Errorf("Load(%d, %d)", budget, spent)
			}
		}
	}
	for _, l := range [][]api.Object{nil, {}, make([]api.Object, 0, 3)} {
		h, ok := Load(2, 0, l)
		if !ok || h == nil {
			t.Fatal("Load of nothing")
		}
		if v, ok := h.Record(); v != named(api.Record, 0) || !ok {
			t.Error("the first behind nothing", v, ok)
		}
	}
}

// P6.9: what is made behind Load goes on from there, and what was loaded is worked on.
func TestLoadedIsWorkedOn(t *testing.T) {
	h := loaded(t, 100, 0, each()...)
	if v, ok := h.Array(nil); v != named(api.Array, 4) || !ok {
		t.Error("Array", v, ok)
	}
	h.Push(named(api.Array, 0), num(9))
	h.SetField(named(api.Record, 1), 3, num(9))
	h.SetField(named(api.Record, 1), 4, num(8))
	h.Delete(named(api.Record, 1), 5)
	h.Recv(named(api.Chan, 3))
	h.Shut(named(api.Chan, 3))
	l := append(each(), api.Object{Kind: api.Array})
	l[0].Items = row(num(1), num(2), num(9))
	l[1].Keys, l[1].Items = []int64{3, 4}, row(num(9), num(8))
	l[3].Items, l[3].Shut = nums(2, 1), true
	holds(t, h, 5, l...)
}

// P6.9: of kinds there are four.
func TestLoadKinds(t *testing.T) {
	for _, kind := range []int{math.MinInt, -6, -1, 0, 1, 2, 3, 4, 5, 10, 11, 6 + 16, 6 + 256, 6 + 1<<32, math.MaxInt} {
		refused(t, api.Object{Kind: kind})
		refused(t, api.Object{Kind: kind, Cap: 1})
	}
	refused(t, api.Object{})
}

// P6.9: how much an object of each kind has.
func TestLoadLimits(t *testing.T) {
	for _, n := range []int{0, 1, 4095, 4096, 4097, 8192} {
		for _, o := range []api.Object{{Kind: api.Array, Items: nums(0, n)}, {Kind: api.Bound, Items: nums(0, n)}} {
			if n <= 4096 {
				holds(t, loaded(t, 0, 0, o), 0, o)
			} else {
				refused(t, o)
			}
		}
	}
	for _, n := range []int{0, 1, 255, 256, 257, 4096} {
		o := api.Object{Kind: api.Record, Items: nums(0, n)}
		for i := range int64(n) {
			o.Keys = append(o.Keys, i*7919%8191)
		}
		if n <= 256 {
			holds(t, loaded(t, 0, 0, o), 0, o)
		} else {
			refused(t, o)
		}
	}
	for _, room := range []int{math.MinInt, -1, 0, 1, 2, 63, 64, 65, math.MaxInt} {
		for _, n := range []int{0, 1, 2, 3, 62, 63, 64, 65} {
			o := api.Object{Kind: api.Chan, Cap: room, Items: nums(0, n), Shut: n%2 == 1}
			if room >= 1 && room <= 64 && n <= room {
				holds(t, loaded(t, 0, 0, o), 0, o)
			} else {
				refused(t, o)
			}
		}
	}
	for _, fn := range []int{math.MinInt, -1} {
		refused(t, api.Object{Kind: api.Bound, Fn: fn})
	}
	for _, fn := range []int{0, 1, 128, math.MaxInt} {
		o := api.Object{Kind: api.Bound, Fn: fn}
		holds(t, loaded(t, 0, 0, o), 0, o)
	}
}

// P6.9: keys as many as items, none below 0, no two alike, wherever they stand.
func TestLoadKeys(t *testing.T) {
	for n := range 6 {
		for k := range 6 {
			o := api.Object{Kind: api.Record, Items: nums(0, n)}
			for i := range int64(k) {
				o.Keys = append(o.Keys, 10-i)
			}
			if n == k {
				loaded(t, 0, 0, o)
			} else {
				refused(t, o)
			}
		}
	}
	for n := 1; n < 7; n++ {
		for i := range n {
			for _, key := range []int64{-1, math.MinInt64, 10, 11, 12, 13, 14, 15, 16, 0, math.MaxInt64} {
				o := api.Object{Kind: api.Record, Items: nums(0, n)}
				twins := 0
				for k := range int64(n) {
					o.Keys = append(o.Keys, 16-k)
				}
				o.Keys[i] = key
				for _, k := range o.Keys {
					if k == key {
						twins++
					}
				}
				if key >= 0 && twins == 1 {
					holds(t, loaded(t, 0, 0, o), 0, o)
				} else {
					refused(t, o)
				}
			}
		}
	}
}

// P6.9: what an object of a kind doesn't have is zero.
func TestLoadZeros(t *testing.T) {
	for kind := api.Array; kind <= api.Chan; kind++ {
		if kind != api.Bound {
			for _, fn := range []int{1, -1, math.MinInt} {
				refused(t, with(kind, func(o *api.Object) { o.Fn = fn })...)
			}
		}
		if kind != api.Record {
			refused(t, with(kind, func(o *api.Object) { o.Keys = []int64{1} })...)
			refused(t, with(kind, func(o *api.Object) { o.Keys = []int64{1, 2} })...)
			loaded(t, 0, 0, with(kind, func(o *api.Object) { o.Keys = make([]int64, 0, 2) })...)
		}
		if kind != api.Chan {
			for _, room := range []int{1, 64, 2, -1} {
				refused(t, with(kind, func(o *api.Object) { o.Cap = room })...)
			}
			refused(t, with(kind, func(o *api.Object) { o.Shut = true })...)
		}
	}
}

// rightOnes are values that are right in each, wrongOnes are not.
func rightOnes() (l []api.Value) {
	l = row(named(api.Nil, 0), named(api.Bool, 0), named(api.Bool, 1))
	for _, n := range []int64{0, 1, -1, math.MaxInt64, math.MinInt64} {
		l = append(l, num(n))
	}
	for _, bits := range []uint64{0, 1 << 63, 1, 0x3FF0000000000000, 0x7FEFFFFFFFFFFFFF, 0x7FF0000000000000, 0xFFF0000000000000, 0xFFEFFFFFFFFFFFFF, 0x7FF8000000000000, 0x8000000000000001} {
		l = append(l, api.Value{Kind: api.Real, N: int64(bits)})
	}
	for _, n := range []int64{0, 1, 4, math.MaxInt64} {
		l = append(l, api.Value{Kind: api.Text, N: n}, api.Value{Kind: api.Func, N: n})
	}
	return append(l, named(api.Array, 0), named(api.Record, 1), named(api.Bound, 2), named(api.Chan, 3))
}

func wrongOnes() (l []api.Value) {
	for _, n := range []int{1, -1, 2, math.MinInt, math.MaxInt} {
		l = append(l, named(api.Nil, n))
	}
	for _, n := range []int{-1, 2, 3, 256, 1 << 32, math.MinInt, math.MaxInt} {
		l = append(l, named(api.Bool, n))
	}
	for _, bits := range []uint64{0x7FF0000000000001, 0x7FF8000000000001, 0x7FF7FFFFFFFFFFFF, 0x7FFFFFFFFFFFFFFF, 0xFFF0000000000001, 0xFFF8000000000000, 0xFFFFFFFFFFFFFFFF, 0x7FFC000000000000} {
		l = append(l, api.Value{Kind: api.Real, N: int64(bits)})
	}
	for _, n := range []int{-1, math.MinInt} {
		l = append(l, named(api.Text, n), named(api.Func, n))
	}
	for kind := api.Array; kind <= api.Chan; kind++ {
		for _, n := range []int{-1, 0, 1, 2, 3, 4, 5, math.MinInt, math.MaxInt, 1 << 32} {
			if n != kind-api.Array {
				l = append(l, named(kind, n))
			}
		}
	}
	for _, kind := range []int{-1, 10, 11, 16, 256, 1 << 32, math.MinInt, math.MaxInt} {
		l = append(l, named(kind, 0), named(kind, 1))
	}
	return l
}

// P6.9: each value of each object is right, wherever it stands.
func TestLoadValues(t *testing.T) {
	for kind := api.Array; kind <= api.Chan; kind++ {
		for place := range 2 {
			for _, v := range rightOnes() {
				l := with(kind, func(o *api.Object) { o.Items[place] = v })
				holds(t, loaded(t, 9, 7, l...), 7, l...)
			}
			for _, v := range wrongOnes() {
				refused(t, with(kind, func(o *api.Object) { o.Items[place] = v })...)
			}
		}
	}
}

// P6.9: a value may name what stands behind it in the list, and what holds it.
func TestLoadNamesForward(t *testing.T) {
	l := each()
	for i := range l {
		l[i].Items = row(named(api.Chan, 3), named(api.Array, 0))
	}
	holds(t, loaded(t, 0, 0, l...), 0, l...)
	for n := 1; n < len(l); n++ {
		refused(t, l[:n]...)
	}
}

// P6.9: what is spent isn't held against what the objects cost.
func TestLoadCostsNothing(t *testing.T) {
	o := api.Object{Kind: api.Array, Items: nums(0, 4096)}
	h := loaded(t, 0, 0, o, o, o)
	if h.Spent() != 0 || !h.Spend(0) {
		t.Error(h.Spent(), "spent")
	}
}
