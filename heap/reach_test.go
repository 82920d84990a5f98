package heap

import (
	"math"
	"math/rand"
	"slices"
	"testing"

	"portage/api"
)

// reached asks for what lies behind roots.
func reached(t *testing.T, h *Heap, roots []api.Value, want ...int) {
	t.Helper()
	if l := h.Reach(roots); !slices.Equal(l, want) {
		t.Errorf("Reach(%v) = %v, not %v", roots, l, want)
	}
}

// P6.10: roots first, then object by object; not one branch down to its end ahead of the next.
func TestReachOrder(t *testing.T) {
	a := func(n int) api.Value { return named(api.Array, n) }
	of := func(l ...api.Value) api.Object { return api.Object{Kind: api.Array, Items: l} }
	h := loaded(t, 0, 0, of(a(1), a(2)), of(a(3)), of(a(4)), of(), of(a(5)), of(a(0)), of(a(6)))
	reached(t, h, nil)
	reached(t, h, row(a(0)), 0, 1, 2, 3, 4, 5)
	reached(t, h, row(a(2), a(1)), 2, 1, 4, 3, 5, 0)
	reached(t, h, row(a(3), a(0), a(3), a(5), a(0)), 3, 0, 5, 1, 2, 4)
	reached(t, h, row(a(6), a(6)), 6)
	reached(t, h, row(a(4)), 4, 5, 0, 1, 2, 3)
}

// P6.10: the items of every kind lead on; keys and functions' numbers don't.
func TestReachKinds(t *testing.T) {
	h := loaded(t, 0, 0,
		api.Object{Kind: api.Array, Items: row(num(3), named(api.Record, 1), named(api.Text, 4))},
		api.Object{Kind: api.Record, Keys: []int64{4, 0, 3}, Items: row(named(api.Func, 4), api.Value{}, named(api.Bound, 2))},
		api.Object{Kind: api.Bound, Fn: 4, Items: row(named(api.Chan, 3), named(api.Real, 4))},
		api.Object{Kind: api.Chan, Cap: 4, Items: row(named(api.Bool, 1), named(api.Array, 0)), Shut: true},
		api.Object{Kind: api.Chan, Cap: 1})
	reached(t, h, row(named(api.Array, 0)), 0, 1, 2, 3)
	reached(t, h, row(named(api.Bound, 2)), 2, 3, 0, 1)
	reached(t, h, row(named(api.Chan, 4), named(api.Record, 1)), 4, 1, 2, 3, 0)
	h.Recv(named(api.Chan, 3))
	h.Recv(named(api.Chan, 3))
	reached(t, h, row(named(api.Array, 0), named(api.Chan, 3)), 0, 3, 1, 2)
	reached(t, h, row(named(api.Bound, 2)), 2, 3)
	h.Delete(named(api.Record, 1), 3)
	reached(t, h, row(named(api.Array, 0)), 0, 1)
	h.Set(named(api.Array, 0), 1, num(1))
	reached(t, h, row(named(api.Array, 0)), 0)
}

// P6.10: values that name no object are passed over, as roots and inside objects.
func TestReachPassesOver(t *testing.T) {
	for kind := api.Array; kind <= api.Chan; kind++ {
		h := four(t)
		v := named(kind, kind-api.Array)
		for _, odd := range strangers(kind) {
			if odd.N == int64(odd.Kind-api.Array) && odd.Kind >= api.Array && odd.Kind <= api.Chan {
				continue
			}
			reached(t, h, row(odd))
			reached(t, h, row(odd, v, odd), kind-api.Array)
			g := New(100, 0)
			a, _ := g.Array(row(odd))
			b, _ := g.Record()
			g.Push(a, b)
			if odd != b && odd != a {
				reached(t, g, row(a), 0, 1)
			}
		}
		alike(t, h, four(t))
	}
	reached(t, New(9, 0), row(named(api.Array, 0), api.Value{Kind: api.Chan, N: math.MaxInt64}))
}

// heapOf is a heap and its model whose n objects are of all kinds and hold what a number says, in base n + 1, two values each.
func heapOf(t *testing.T, n, number int) (*Heap, *model) {
	kinds := []int{api.Array, api.Bound, api.Chan, api.Record}
	var l []api.Object
	for i := range n {
		o := api.Object{Kind: kinds[i%4]}
		if o.Kind == api.Chan {
			o.Cap = 2
		}
		for k := range 2 {
			if to := number % (n + 1); to < n {
				o.Items = append(o.Items, named(kinds[to%4], to))
				if o.Kind == api.Record {
					o.Keys = append(o.Keys, int64(k))
				}
			}
			number /= n + 1
		}
		l = append(l, o)
	}
	return loaded(t, 0, 0, l...), &model{objects: l}
}

// P6.10, P6.14: all heaps of up to 3 objects that hold up to two each, from all roots.
func TestReachOfEveryHeap(t *testing.T) {
	for n, count := range []int{1, 4, 81, 4096} {
		for number := range count {
			h, m := heapOf(t, n, number)
			kinds := []int{api.Array, api.Bound, api.Chan}
			for i := range n {
				for k := range n {
					roots := row(named(kinds[i], i), named(kinds[k], k))
					if got, want := h.Reach(roots), m.Reach(roots); !slices.Equal(got, want) {
						t.Fatalf("Reach(%v) of %v = %v, not %v", roots, m.objects, got, want)
					}
				}
				closed(t, h, row(named(kinds[i], i)))
			}
		}
	}
}

// P6.14: closed asks that each number is led to by roots or one ahead of it, and that what they name is among them.
func closed(t *testing.T, h *Heap, roots []api.Value) {
	t.Helper()
	l, objects := h.Reach(roots), told(h)
	names := func(values []api.Value, i int) bool {
		return slices.Contains(values, named(objects[i].Kind, i))
	}
	for at, i := range l {
		led := names(roots, i)
		for _, k := range l[:at] {
			led = led || names(objects[k].Items, i)
		}
		if !led || slices.Contains(l[:at], i) {
			t.Fatalf("Reach(%v) = %v: %d is led to by nothing, or twice", roots, l, i)
		}
	}
	for i := range objects {
		met := slices.Contains(l, i)
		led := names(roots, i)
		for _, k := range l {
			led = led || names(objects[k].Items, i)
		}
		if led != met {
			t.Fatalf("Reach(%v) = %v: %d is missing", roots, l, i)
		}
	}
}

// P6.10, P6.14: greater heaps, their arrows drawn by chance.
func TestReachOfManyHeaps(t *testing.T) {
	r := rand.New(rand.NewSource(6))
	for range 300 {
		n := 4 + r.Intn(30)
		number := r.Intn(math.MaxInt)
		h, m := heapOf(t, n, number)
		for range 5 {
			var roots []api.Value
			for range r.Intn(4) {
				i := r.Intn(n)
				roots = append(roots, named(m.objects[i].Kind, i), named(6+r.Intn(4), r.Intn(n+2)))
			}
			reached(t, h, roots, m.Reach(roots)...)
			closed(t, h, roots)
		}
	}
}

// P6.10: a long chain, and many roots, end soon.
func TestReachLong(t *testing.T) {
	const n = 200000
	h := New(math.MaxInt, 0)
	last, _ := h.Record()
	for range n {
		last, _ = h.Array(row(last, last))
	}
	l := h.Reach(slices.Repeat(row(last), 1000))
	if len(l) != n+1 || l[0] != n || l[n] != 0 {
		t.Error("of the chain", len(l))
	}
}
