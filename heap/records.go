package heap

import (
	"slices"

	"portage/api"
)

// record is the record that a value names; nil: it names none.
func (h *Heap) record(v api.Value) *record {
	switch o := h.named(v).(type) {
	case *record:
		return o
	}
	return nil
}

// field is a record and the place of a key's field in it; else a trap.
func (h *Heap) field(v api.Value, key int64) (*record, int, int) {
	r := h.record(v)
	if r == nil {
		return nil, 0, api.TrapType
	}
	i := slices.Index(r.keys, key)
	if i < 0 {
		return r, 0, api.TrapKey
	}
	return r, i, 0
}

// Field is a record's field.
func (h *Heap) Field(v api.Value, key int64) (api.Value, int) {
	r, i, trap := h.field(v, key)
	if trap != 0 {
		return api.Value{}, trap
	}
	return r.items[i], 0
}

// SetField puts a field in; false: no room.
func (h *Heap) SetField(v api.Value, key int64, x api.Value) (int, bool) {
	r, i, trap := h.field(v, key)
	switch trap {
	case 0:
		r.items[i] = x
		return 0, true
	case api.TrapKey:
		return h.addField(r, key, x)
	}
	return trap, true
}

// addField puts a field behind the others of a record that has none of its key.
func (h *Heap) addField(r *record, key int64, x api.Value) (int, bool) {
	if len(r.keys) >= api.MaxFields {
		return api.TrapRange, true
	}
	if !h.Spend(2) {
		return 0, false
	}
	r.keys = append(r.keys, key)
	r.items = append(r.items, x)
	return 0, true
}

// Has tells whether a record has a field.
func (h *Heap) Has(v api.Value, key int64) (bool, int) {
	_, _, trap := h.field(v, key)
	if trap == api.TrapType {
		return false, trap
	}
	return trap == 0, 0
}

// Delete takes a field out.
func (h *Heap) Delete(v api.Value, key int64) int {
	r, i, trap := h.field(v, key)
	if trap != 0 {
		return trap
	}
	r.keys = slices.Delete(r.keys, i, i+1)
	r.items = slices.Delete(r.items, i, i+1)
	return 0
}

// Keys makes an array of a record's keys; false: no room.
func (h *Heap) Keys(v api.Value) (api.Value, int, bool) {
	r := h.record(v)
	if r == nil {
		return api.Value{}, api.TrapType, true
	}
	items := make([]api.Value, len(r.keys))
	for i, key := range r.keys {
		items[i] = api.Value{Kind: api.Text, N: key}
	}
	a, ok := h.lay(&array{items: items})
	return a, 0, ok
}
