package heap

import "portage/api"

// Reach are the numbers of the objects that lie behind these values, in the order in which they are met.
func (h *Heap) Reach(roots []api.Value) []int {
	met := make([]bool, len(h.objects))
	l := h.meet(nil, met, roots)
	for i := 0; i < len(l); i++ {
		l = h.meet(l, met, h.objects[l[i]].values())
	}
	return l
}

// meet adds to a list the numbers of the objects that these values name and that weren't met yet.
func (h *Heap) meet(l []int, met []bool, values []api.Value) []int {
	for _, v := range values {
		if h.named(v) != nil && !met[v.N] {
			met[v.N] = true
			l = append(l, int(v.N))
		}
	}
	return l
}
