package heap

import (
	"math"
	"slices"
	"testing"

	"portage/api"
)

func num(n int64) api.Value          { return api.Value{Kind: api.Int, N: n} }
func named(kind, n int) api.Value    { return api.Value{Kind: kind, N: int64(n)} }
func row(l ...api.Value) []api.Value { return l }
func nums(from, n int) (l []api.Value) {
	for i := range n {
		l = append(l, num(int64(from+i)))
	}
	return l
}

// calls is what a heap and the model of one are both asked.
type calls interface {
	Spend(n int) bool
	Spent() int
	Len() int
	Object(i int) (api.Object, bool)
	Array(items []api.Value) (api.Value, bool)
	Record() (api.Value, bool)
	Bound(fn int, items []api.Value) (api.Value, bool)
	Chan(room int) (api.Value, bool)
	Get(v api.Value, i int64) (api.Value, int)
	Set(v api.Value, i int64, x api.Value) int
	Push(v, x api.Value) (int, bool)
	Size(v api.Value) (int64, int)
	Field(v api.Value, key int64) (api.Value, int)
	SetField(v api.Value, key int64, x api.Value) (int, bool)
	Has(v api.Value, key int64) (bool, int)
	Delete(v api.Value, key int64) int
	Keys(v api.Value) (api.Value, int, bool)
	Send(v, x api.Value) (bool, int)
	Recv(v api.Value) (api.Value, bool, int)
	Shut(v api.Value) int
	Reach(roots []api.Value) []int
}

// model is a heap by the document's words alone: a list of objects, as they are told.
type model struct {
	budget, spent uint64
	objects       []api.Object
}

func newModel(budget, spent int) *model {
	return &model{budget: uint64(max(budget, 0)), spent: uint64(max(spent, 0))}
}

func (m *model) room(n int) bool { return n >= 0 && m.spent+uint64(n) <= m.budget }

func (m *model) Spend(n int) bool {
	if m.room(n) {
		m.spent += uint64(n)
		return true
	}
	return false
}

func (m *model) Spent() int { return int(m.spent) }
func (m *model) Len() int   { return len(m.objects) }

func (m *model) Object(i int) (api.Object, bool) {
	for k, o := range m.objects {
		if k == i {
			return o, true
		}
	}
	return api.Object{}, false
}

func (m *model) lay(o api.Object, cost int) (api.Value, bool) {
	if !m.Spend(cost) {
		return api.Value{}, false
	}
	m.objects = append(m.objects, o)
	return named(o.Kind, len(m.objects)-1), true
}

func (m *model) Array(items []api.Value) (api.Value, bool) {
	if len(items) > 4096 {
		return api.Value{}, false
	}
	return m.lay(api.Object{Kind: api.Array, Items: slices.Clone(items)}, 2+len(items))
}

func (m *model) Record() (api.Value, bool) {
	return m.lay(api.Object{Kind: api.Record}, 2)
}

func (m *model) Bound(fn int, items []api.Value) (api.Value, bool) {
	if len(items) > 4096 || fn < 0 {
		return api.Value{}, false
	}
	return m.lay(api.Object{Kind: api.Bound, Fn: fn, Items: slices.Clone(items)}, 2+len(items))
}

func (m *model) Chan(room int) (api.Value, bool) {
	if room < 1 || room > 64 {
		return api.Value{}, false
	}
	return m.lay(api.Object{Kind: api.Chan, Cap: room}, 2+room)
}

// names is the object that a value names, which must be of one of these kinds.
func (m *model) names(v api.Value, kinds ...int) *api.Object {
	for i := range m.objects {
		if int64(i) == v.N && m.objects[i].Kind == v.Kind && slices.Contains(kinds, v.Kind) {
			return &m.objects[i]
		}
	}
	return nil
}

func (m *model) Get(v api.Value, i int64) (api.Value, int) {
	o := m.names(v, api.Array)
	if o == nil {
		return api.Value{}, 1
	}
	for k, x := range o.Items {
		if int64(k) == i {
			return x, 0
		}
	}
	return api.Value{}, 3
}

func (m *model) Set(v api.Value, i int64, x api.Value) int {
	if _, trap := m.Get(v, i); trap != 0 {
		return trap
	}
	m.objects[v.N].Items[i] = x
	return 0
}

func (m *model) Push(v, x api.Value) (int, bool) {
	o := m.names(v, api.Array)
	switch {
	case o == nil:
		return 1, true
	case len(o.Items) == 4096:
		return 8, true
	case !m.Spend(1):
		return 0, false
	}
	o.Items = append(o.Items, x)
	return 0, true
}

func (m *model) Size(v api.Value) (int64, int) {
	o := m.names(v, api.Array, api.Record, api.Chan)
	if o == nil {
		return 0, 1
	}
	return int64(len(o.Items)), 0
}

func (m *model) Field(v api.Value, key int64) (api.Value, int) {
	o := m.names(v, api.Record)
	if o == nil {
		return api.Value{}, 1
	}
	for i, k := range o.Keys {
		if k == key {
			return o.Items[i], 0
		}
	}
	return api.Value{}, 4
}

func (m *model) SetField(v api.Value, key int64, x api.Value) (int, bool) {
	o := m.names(v, api.Record)
	if o == nil {
		return 1, true
	}
	for i, k := range o.Keys {
		if k == key {
			o.Items[i] = x
			return 0, true
		}
	}
	if len(o.Keys) == 256 {
		return 8, true
	}
	if !m.Spend(2) {
		return 0, false
	}
	o.Keys, o.Items = append(o.Keys, key), append(o.Items, x)
	return 0, true
}

func (m *model) Has(v api.Value, key int64) (bool, int) {
	o := m.names(v, api.Record)
	if o == nil {
		return false, 1
	}
	return slices.Contains(o.Keys, key), 0
}

func (m *model) Delete(v api.Value, key int64) int {
	if _, trap := m.Field(v, key); trap != 0 {
		return trap
	}
	o := &m.objects[v.N]
	var keys []int64
	var items []api.Value
	for i, k := range o.Keys {
		if k != key {
			keys, items = append(keys, k), append(items, o.Items[i])
		}
	}
	o.Keys, o.Items = keys, items
	return 0
}

func (m *model) Keys(v api.Value) (api.Value, int, bool) {
	o := m.names(v, api.Record)
	if o == nil {
		return api.Value{}, 1, true
	}
	var items []api.Value
	for _, k := range o.Keys {
		items = append(items, api.Value{Kind: api.Text, N: k})
	}
	a, ok := m.Array(items)
	return a, 0, ok
}

func (m *model) Send(v, x api.Value) (bool, int) {
	o := m.names(v, api.Chan)
	switch {
	case o == nil:
		return false, 1
	case o.Shut:
		return false, 7
	case len(o.Items) == o.Cap:
		return false, 0
	}
	o.Items = append(o.Items, x)
	return true, 0
}

func (m *model) Recv(v api.Value) (api.Value, bool, int) {
	o := m.names(v, api.Chan)
	switch {
	case o == nil:
		return api.Value{}, false, 1
	case len(o.Items) > 0:
		x := o.Items[0]
		o.Items = slices.Clone(o.Items[1:])
		return x, true, 0
	}
	return api.Value{}, o.Shut, 0
}

func (m *model) Shut(v api.Value) int {
	o := m.names(v, api.Chan)
	switch {
	case o == nil:
		return 1
	case o.Shut:
		return 7
	}
	o.Shut = true
	return 0
}

func (m *model) Reach(roots []api.Value) []int {
	var met []int
	look := func(l []api.Value) {
		for _, v := range l {
			if o := m.names(v, api.Array, api.Record, api.Bound, api.Chan); o != nil && !slices.Contains(met, int(v.N)) {
				met = append(met, int(v.N))
			}
		}
	}
	look(roots)
	for i := 0; i < len(met); i++ {
		look(m.objects[met[i]].Items)
	}
	return met
}

// same holds two objects against each other; no list and an empty one are the same.
func same(a, b api.Object) bool {
	return a.Kind == b.Kind && a.Fn == b.Fn && a.Cap == b.Cap && a.Shut == b.Shut && slices.Equal(a.Items, b.Items) && slices.Equal(a.Keys, b.Keys)
}

// told are all objects of a heap, up to the first that it says it doesn't have.
func told(c calls) (l []api.Object) {
	for i := range c.Len() {
		o, ok := c.Object(i)
		if !ok {
			break
		}
		l = append(l, o)
	}
	return l
}

// alike holds two heaps against each other: their objects, and what is spent.
func alike(t *testing.T, got, want calls) {
	t.Helper()
	if got.Spent() != want.Spent() || got.Len() != want.Len() {
		t.Fatalf("%d objects, %d spent, not %d and %d", got.Len(), got.Spent(), want.Len(), want.Spent())
	}
	a, b := told(got), told(want)
	if !slices.EqualFunc(a, b, same) {
		t.Fatalf("objects %v, not %v", a, b)
	}
	for _, i := range []int{-1, math.MinInt, got.Len(), math.MaxInt} {
		if o, ok := got.Object(i); ok || !same(o, api.Object{}) {
			t.Fatalf("Object(%d) = %v %v", i, o, ok)
		}
	}
}

// holds asks that a heap has just these objects and has spent so much.
func holds(t *testing.T, h *Heap, spent int, objects ...api.Object) {
	t.Helper()
	alike(t, h, &model{spent: uint64(spent), objects: objects})
}

// loaded is a heap of objects that are right.
func loaded(t *testing.T, budget, spent int, objects ...api.Object) *Heap {
	t.Helper()
	h, ok := Load(budget, spent, objects)
	if !ok || h == nil {
		t.Fatalf("Load of %v", objects)
	}
	return h
}

// four is a heap with one object of each kind, each with a value in it; its budget is all spent.
func four(t *testing.T) *Heap {
	t.Helper()
	return loaded(t, 50, 50,
		api.Object{Kind: api.Array, Items: nums(10, 1)},
		api.Object{Kind: api.Record, Keys: []int64{5}, Items: nums(20, 1)},
		api.Object{Kind: api.Bound, Fn: 3, Items: nums(30, 1)},
		api.Object{Kind: api.Chan, Cap: 2, Items: nums(40, 1)})
}

// strangers are values that name no object of this kind in a heap of four.
func strangers(kind int) (l []api.Value) {
	place := kind - api.Array
	for k := -1; k <= 11; k++ {
		for n := -1; n <= 5; n++ {
			if k != kind || n != place {
				l = append(l, named(k, n))
			}
		}
		for _, n := range []int{math.MinInt, math.MaxInt, 1<<32 + place, place - 1<<32} {
			l = append(l, named(k, n))
		}
	}
	for _, k := range []int{math.MinInt, math.MaxInt, kind + 1<<32, kind + 16, -kind} {
		l = append(l, named(k, place))
	}
	return l
}
