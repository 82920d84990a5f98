package heap

import (
	"math"
	"testing"

	"portage/api"
)

// oddKeys are keys of all sorts, no two alike.
func oddKeys() []int64 {
	return []int64{0, 1, -1, 2, math.MaxInt64, math.MinInt64, 1 << 32, 1<<32 + 1, 7, 3}
}

// P6.7: fields are put in, asked for, changed and taken out, by any keys.
func TestFields(t *testing.T) {
	h, m := New(1000, 0), newModel(1000, 0)
	r, _ := h.Record()
	m.Record()
	asked := func() {
		t.Helper()
		for _, key := range append(oddKeys(), 99, -99) {
			x, trap := h.Field(r, key)
			if wx, wtrap := m.Field(r, key); x != wx || trap != wtrap {
				t.Fatalf("Field(%d) = %v %d, not %v %d", key, x, trap, wx, wtrap)
			}
			has, trap := h.Has(r, key)
			if want, wtrap := m.Has(r, key); has != want || trap != wtrap {
				t.Fatalf("Has(%d) = %v %d", key, has, trap)
			}
		}
		alike(t, h, m)
	}
	for turn := range 2 {
		for i, key := range oddKeys() {
			x := num(int64(100*turn + i))
			if trap, ok := h.SetField(r, key, x); trap != 0 || !ok {
				t.Fatalf("SetField(%d) = %d %v", key, trap, ok)
			}
			m.SetField(r, key, x)
			asked()
		}
	}
	if h.Spent() != 2+2*len(oddKeys()) {
		t.Error(h.Spent(), "spent")
	}
	for _, key := range []int64{2, 0, 3, math.MinInt64, 2, 99} {
		if got, want := h.Delete(r, key), m.Delete(r, key); got != want {
			t.Errorf("Delete(%d) = %d, not %d", key, got, want)
		}
		asked()
	}
}

// P6.7: what has no such field, and what isn't a record; type comes first.
func TestNoField(t *testing.T) {
	h := four(t)
	r := named(api.Record, 1)
	for _, key := range []int64{0, 4, 6, -5, 20, 1<<32 + 5} {
		if v, trap := h.Field(r, key); v != (api.Value{}) || trap != api.TrapKey {
			t.Errorf("Field(%d) = %v %d", key, v, trap)
		}
		if has, trap := h.Has(r, key); has || trap != 0 {
			t.Errorf("Has(%d) = %v %d", key, has, trap)
		}
		if trap := h.Delete(r, key); trap != api.TrapKey {
			t.Errorf("Delete(%d) = %d", key, trap)
		}
	}
	for _, v := range strangers(api.Record) {
		for _, key := range []int64{0, 5, -1} {
			if x, trap := h.Field(v, key); x != (api.Value{}) || trap != api.TrapType {
				t.Errorf("Field(%v, %d) = %v %d", v, key, x, trap)
			}
			if trap, ok := h.SetField(v, key, num(1)); trap != api.TrapType || !ok {
				t.Errorf("SetField(%v, %d) = %d %v", v, key, trap, ok)
			}
			if has, trap := h.Has(v, key); has || trap != api.TrapType {
				t.Errorf("Has(%v, %d) = %v %d", v, key, has, trap)
			}
			if trap := h.Delete(v, key); trap != api.TrapType {
				t.Errorf("Delete(%v, %d) = %d", v, key, trap)
			}
		}
		if x, trap, ok := h.Keys(v); x != (api.Value{}) || trap != api.TrapType || !ok {
			t.Errorf("Keys(%v) = %v %d %v", v, x, trap, ok)
		}
	}
	alike(t, h, four(t))
}

// P6.7: a new field needs room for 2, an old one none.
func TestSetFieldWithoutRoom(t *testing.T) {
	for _, left := range []int{0, 1, 2, 3} {
		h := loaded(t, 10+left, 10, api.Object{Kind: api.Record, Keys: []int64{4}, Items: nums(1, 1)})
		r := named(api.Record, 0)
		if trap, ok := h.SetField(r, 4, num(8)); trap != 0 || !ok {
			t.Error("an old key", trap, ok)
		}
		if trap, ok := h.SetField(r, 5, num(9)); trap != 0 || ok != (left >= 2) {
			t.Errorf("a new key with %d left: %d %v", left, trap, ok)
		}
		if left < 2 {
			holds(t, h, 10, api.Object{Kind: api.Record, Keys: []int64{4}, Items: nums(8, 1)})
		} else {
			holds(t, h, 12, api.Object{Kind: api.Record, Keys: []int64{4, 5}, Items: nums(8, 2)})
		}
	}
}

// P6.7: a record takes MaxFields fields; then a new one is a trap, with room and without, and an old one is not.
func TestFieldsToTheLimit(t *testing.T) {
	for _, left := range []int{0, 1, 2, 100} {
		h, m := New(514+left, 0), newModel(514, 0)
		r, _ := h.Record()
		m.Record()
		for i := range int64(256) {
			if trap, ok := h.SetField(r, 3*i, num(i)); trap != 0 || !ok {
				t.Fatalf("SetField %d: %d %v", i, trap, ok)
			}
			m.SetField(r, 3*i, num(i))
		}
		if trap, ok := h.SetField(r, 1, num(9)); trap != api.TrapRange || !ok {
			t.Errorf("a field more with %d left: %d %v", left, trap, ok)
		}
		for _, key := range []int64{0, 3, 765} {
			if trap, ok := h.SetField(r, key, num(-key)); trap != 0 || !ok {
				t.Errorf("an old key with %d left: %d %v", left, trap, ok)
			}
			m.SetField(r, key, num(-key))
		}
		alike(t, h, m)
		h.Delete(r, 3)
		m.Delete(r, 3)
		if trap, ok := h.SetField(r, 1, num(9)); trap != 0 || ok != (left >= 2) {
			t.Errorf("one taken out, with %d left: %d %v", left, trap, ok)
		}
		if left < 2 {
			alike(t, h, m)
		}
	}
	h := New(513, 0)
	r, _ := h.Record()
	for i := range int64(255) {
		h.SetField(r, i, num(i))
	}
	if trap, ok := h.SetField(r, 999, num(9)); trap != 0 || ok {
		t.Errorf("the last field without room: %d %v", trap, ok)
	}
}

// P6.13: the fields' order is that in which each was last put in anew.
func TestOrderOfFields(t *testing.T) {
	h := New(1000, 0)
	r, _ := h.Record()
	for _, key := range []int64{3, 1, 2} {
		h.SetField(r, key, num(key))
	}
	h.SetField(r, 1, num(10))
	h.Delete(r, 3)
	h.SetField(r, 4, num(4))
	h.SetField(r, 3, num(30))
	holds(t, h, 12, api.Object{Kind: api.Record, Keys: []int64{1, 2, 4, 3}, Items: row(num(10), num(2), num(4), num(30))})
}

// P6.7: what taking out each of the fields leaves, for records of many lengths.
func TestDeleteEach(t *testing.T) {
	for n := range 6 {
		for i := range n {
			h, m := New(100, 0), newModel(100, 0)
			r, _ := h.Record()
			m.Record()
			for k := range int64(n) {
				h.SetField(r, 10-k, num(k))
				m.SetField(r, 10-k, num(k))
			}
			if trap := h.Delete(r, 10-int64(i)); trap != 0 {
				t.Error("Delete", trap)
			}
			m.Delete(r, 10-int64(i))
			alike(t, h, m)
		}
	}
}

// P6.7: Keys is an array of texts, and costs what an array does.
func TestKeys(t *testing.T) {
	for _, n := range []int{0, 1, 2, 10} {
		for _, left := range []int{0, 1, n + 1, n + 2, n + 3} {
			o := api.Object{Kind: api.Record, Items: nums(5, n)}
			made := api.Object{Kind: api.Array}
			for i := range int64(n) {
				key := 5 * (i*7%10 + 1)
				o.Keys = append(o.Keys, key)
				made.Items = append(made.Items, api.Value{Kind: api.Text, N: key})
			}
			h := loaded(t, 3+left, 3, o)
			v, trap, ok := h.Keys(named(api.Record, 0))
			if trap != 0 || ok != (left >= n+2) {
				t.Errorf("Keys of %d with %d left: %d %v", n, left, trap, ok)
			}
			if !ok {
				if v != (api.Value{}) {
					t.Error("Keys without room:", v)
				}
				holds(t, h, 3, o)
				continue
			}
			if v != named(api.Array, 1) {
				t.Error("Keys is", v)
			}
			holds(t, h, 5+n, o, made)
		}
	}
}

// P6.7: the array of Keys goes its own way, and keys below 0 are told as they are.
func TestKeysIsAnArray(t *testing.T) {
	h := New(1000, 0)
	r, _ := h.Record()
	for i := range int64(256) {
		h.SetField(r, -i, num(i))
	}
	a, _, _ := h.Keys(r)
	if n, trap := h.Size(a); n != 256 || trap != 0 {
		t.Error("Size", n, trap)
	}
	if v, trap := h.Get(a, 255); v != named(api.Text, -255) || trap != 0 {
		t.Error("Get", v, trap)
	}
	h.Set(a, 0, num(1))
	h.Push(a, num(2))
	h.Delete(r, -1)
	if has, _ := h.Has(r, 0); !has {
		t.Error("the record changed with the array")
	}
	if v, _ := h.Get(a, 1); v != named(api.Text, -1) {
		t.Error("the array changed with the record")
	}
}
