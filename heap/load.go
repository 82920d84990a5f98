package heap

import (
	"slices"

	"portage/api"
)

const (
	infinity = 0x7FF0000000000000 // the bits of the greatest real that is no NaN, its sign aside
	oneNaN   = 0x7FF8000000000000
	signBit  = 1 << 63
)

// Load is a heap of these objects; false: they are none that a heap can have.
func Load(budget, spent int, l []api.Object) (*Heap, bool) {
	h := New(budget, spent)
	for _, o := range l {
		if !rightFields(o) || !rightValues(o.Items, l) {
			return nil, false
		}
		h.objects = append(h.objects, taken(o))
	}
	return h, true
}

// taken is a copy of an object whose fields are right.
func taken(o api.Object) object {
	items := slices.Clone(o.Items)
	switch o.Kind {
	case api.Array:
		return &array{items: items}
	case api.Record:
		return &record{keys: slices.Clone(o.Keys), items: items}
	case api.Bound:
		return &bound{fn: o.Fn, items: items}
	}
	return &channel{room: o.Cap, items: items, shut: o.Shut}
}

// rightFields tells whether an object has what its kind has, and nothing else.
func rightFields(o api.Object) bool {
	n := len(o.Items)
	switch o.Kind {
	case api.Array:
		return n <= api.MaxItems && len(o.Keys) == 0 && o.Fn == 0 && noChannel(o)
	case api.Record:
		return n <= api.MaxFields && n == len(o.Keys) && rightKeys(o.Keys) && o.Fn == 0 && noChannel(o)
	case api.Bound:
		return n <= api.MaxItems && len(o.Keys) == 0 && o.Fn >= 0 && noChannel(o)
	case api.Chan:
		return 1 <= o.Cap && o.Cap <= api.MaxCap && n <= o.Cap && len(o.Keys) == 0 && o.Fn == 0
	}
	return false
}

// noChannel tells whether an object has nothing of what channels alone have.
func noChannel(o api.Object) bool {
	return o.Cap == 0 && !o.Shut
}

// rightKeys tells whether no key is below 0 and no two are alike.
func rightKeys(keys []int64) bool {
	rising := slices.Clone(keys)
	slices.Sort(rising)
	for i, key := range rising {
		if key < 0 || i > 0 && key == rising[i-1] {
			return false
		}
	}
	return true
}

// rightValues tells whether each value is right among these objects.
func rightValues(items []api.Value, l []api.Object) bool {
	for _, v := range items {
		if !rightValue(v, l) {
			return false
		}
	}
	return true
}

func rightValue(v api.Value, l []api.Object) bool {
	switch v.Kind {
	case api.Nil:
		return v.N == 0
	case api.Bool:
		return v.N == 0 || v.N == 1
	case api.Int:
		return true
	case api.Real:
		return rightReal(uint64(v.N))
	case api.Text, api.Func:
		return v.N >= 0
	case api.Array, api.Record, api.Bound, api.Chan:
		return 0 <= v.N && v.N < int64(len(l)) && l[v.N].Kind == v.Kind
	}
	return false
}

// rightReal tells whether these are the bits of a number, or of the one NaN.
func rightReal(bits uint64) bool {
	return bits&^signBit <= infinity || bits == oneNaN
}
