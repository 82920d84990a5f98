package heap

import (
	"math"
	"slices"
	"testing"

	"portage/api"
)

// P6.5: each place of arrays of many lengths, and what is no place.
func TestGetAndSet(t *testing.T) {
	for _, n := range []int{0, 1, 2, 3, 100, 4096} {
		h := New(5000, 0)
		h.Record()
		a, _ := h.Array(nums(7, n))
		b, _ := h.Array(nums(7, n)[:min(n, 3)])
		spent, want := h.Spent(), nums(7, n)
		for i := range n {
			if v, trap := h.Get(a, int64(i)); v != want[i] || trap != 0 {
				t.Fatalf("Get %d of %d = %v %d", i, n, v, trap)
			}
			want[i] = named(api.Bool, 1)
			if trap := h.Set(a, int64(i), want[i]); trap != 0 {
				t.Fatalf("Set %d of %d = %d", i, n, trap)
			}
			if o, _ := h.Object(1); i%16 == 0 && !slices.Equal(o.Items, want) {
				t.Fatalf("Set %d of %d made %v", i, n, o)
			}
		}
		for _, i := range []int64{-1, int64(n), int64(n) + 1, math.MinInt64, math.MaxInt64, 1 << 32, -1 << 32} {
			if v, trap := h.Get(a, i); v != (api.Value{}) || trap != api.TrapIndex {
				t.Errorf("Get %d of %d = %v %d", i, n, v, trap)
			}
			if trap := h.Set(a, i, num(5)); trap != api.TrapIndex {
				t.Errorf("Set %d of %d = %d", i, n, trap)
			}
		}
		if v, trap := h.Size(b); v != int64(min(n, 3)) || trap != 0 {
			t.Error("the other array", v, trap)
		}
		holds(t, h, spent, api.Object{Kind: api.Record}, api.Object{Kind: api.Array, Items: want}, api.Object{Kind: api.Array, Items: nums(7, min(n, 3))})
	}
}

// P6.5: of what names no array the trap is type, whatever the place and the room.
func TestNoArray(t *testing.T) {
	for _, v := range strangers(api.Array) {
		h := four(t)
		for _, i := range []int64{-1, 0, 1, math.MaxInt64} {
			if x, trap := h.Get(v, i); x != (api.Value{}) || trap != api.TrapType {
				t.Errorf("Get(%v, %d) = %v %d", v, i, x, trap)
			}
			if trap := h.Set(v, i, num(1)); trap != api.TrapType {
				t.Errorf("Set(%v, %d) = %d", v, i, trap)
			}
		}
		if trap, ok := h.Push(v, num(1)); trap != api.TrapType || !ok {
			t.Errorf("Push(%v) = %d %v", v, trap, ok)
		}
		alike(t, h, four(t))
	}
}

// P6.5: an item more costs 1, and needs the room for it.
func TestPush(t *testing.T) {
	for _, room := range []int{0, 1, 2, 9} {
		h := loaded(t, 20+room, 20, api.Object{Kind: api.Array}, api.Object{Kind: api.Array, Items: nums(1, 3)})
		a, b := named(api.Array, 0), named(api.Array, 1)
		for i := range room {
			if trap, ok := h.Push([]api.Value{a, b}[i%2], num(int64(50+i))); trap != 0 || !ok {
				t.Fatalf("Push %d into a room of %d: %d %v", i, room, trap, ok)
			}
			if h.Spent() != 21+i {
				t.Fatal(h.Spent(), "spent")
			}
		}
		var first, second []api.Value
		for i, x := range nums(50, room) {
			if i%2 == 0 {
				first = append(first, x)
			} else {
				second = append(second, x)
			}
		}
		for _, v := range row(a, b) {
			if trap, ok := h.Push(v, num(9)); trap != 0 || ok {
				t.Errorf("Push without room: %d %v", trap, ok)
			}
		}
		holds(t, h, 20+room, api.Object{Kind: api.Array, Items: first}, api.Object{Kind: api.Array, Items: append(nums(1, 3), second...)})
	}
}

// P6.5: an array takes MaxItems items; then it is a trap, with room and without.
func TestPushToTheLimit(t *testing.T) {
	for _, left := range []int{0, 1, 100} {
		h := New(4098+left, 0)
		a, _ := h.Array(nil)
		for i := range 4096 {
			if trap, ok := h.Push(a, num(int64(i))); trap != 0 || !ok {
				t.Fatalf("Push %d: %d %v", i, trap, ok)
			}
		}
		for range 2 {
			if trap, ok := h.Push(a, num(9)); trap != api.TrapRange || !ok {
				t.Errorf("Push with %d left: %d %v", left, trap, ok)
			}
		}
		holds(t, h, 4098, api.Object{Kind: api.Array, Items: nums(0, 4096)})
	}
	h := loaded(t, 0, 1, api.Object{Kind: api.Array, Items: nums(0, 4096)})
	if trap, ok := h.Push(named(api.Array, 0), num(9)); trap != api.TrapRange || !ok {
		t.Errorf("Push where too much is spent: %d %v", trap, ok)
	}
}

// P6.5: an array may hold itself.
func TestArrayInItself(t *testing.T) {
	h := New(10, 0)
	a, _ := h.Array(nil)
	h.Push(a, a)
	h.Push(a, a)
	h.Set(a, 0, num(3))
	holds(t, h, 4, api.Object{Kind: api.Array, Items: row(num(3), a)})
}
