package heap

import (
	"slices"

	"portage/api"
)

// channel is the channel that a value names; nil: it names none.
func (h *Heap) channel(v api.Value) *channel {
	switch o := h.named(v).(type) {
	case *channel:
		return o
	}
	return nil
}

// Send puts a value into a channel; false: it is full.
func (h *Heap) Send(v, x api.Value) (bool, int) {
	c := h.channel(v)
	switch {
	case c == nil:
		return false, api.TrapType
	case c.shut:
		return false, api.TrapClosed
	case len(c.items) >= c.room:
		return false, 0
	}
	c.items = append(c.items, x)
	return true, 0
}

// Recv takes a value out of a channel; false: there is none yet.
func (h *Heap) Recv(v api.Value) (api.Value, bool, int) {
	c := h.channel(v)
	if c == nil {
		return api.Value{}, false, api.TrapType
	}
	if len(c.items) == 0 {
		return api.Value{}, c.shut, 0
	}
	x := c.items[0]
	c.items = slices.Delete(c.items, 0, 1)
	return x, true, 0
}

// Shut shuts a channel.
func (h *Heap) Shut(v api.Value) int {
	c := h.channel(v)
	switch {
	case c == nil:
		return api.TrapType
	case c.shut:
		return api.TrapClosed
	}
	c.shut = true
	return 0
}
