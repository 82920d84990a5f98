package heap

import "portage/api"

// array is the array that a value names; nil: it names none.
func (h *Heap) array(v api.Value) *array {
	switch o := h.named(v).(type) {
	case *array:
		return o
	}
	return nil
}

// item is where an array's item lies; else a trap.
func (h *Heap) item(v api.Value, i int64) (*api.Value, int) {
	a := h.array(v)
	if a == nil {
		return nil, api.TrapType
	}
	if i < 0 || i >= int64(len(a.items)) {
		return nil, api.TrapIndex
	}
	return &a.items[i], 0
}

// Get is an array's item; else a trap.
func (h *Heap) Get(v api.Value, i int64) (api.Value, int) {
	at, trap := h.item(v, i)
	if trap != 0 {
		return api.Value{}, trap
	}
	return *at, 0
}

// Set puts an item in an array's place.
func (h *Heap) Set(v api.Value, i int64, x api.Value) int {
	at, trap := h.item(v, i)
	if trap != 0 {
		return trap
	}
	*at = x
	return 0
}

// Push puts an item behind an array's last; false: no room.
func (h *Heap) Push(v, x api.Value) (int, bool) {
	a := h.array(v)
	if a == nil {
		return api.TrapType, true
	}
	if len(a.items) >= api.MaxItems {
		return api.TrapRange, true
	}
	if !h.Spend(1) {
		return 0, false
	}
	a.items = append(a.items, x)
	return 0, true
}
