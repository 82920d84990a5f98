package heap

import (
	"slices"

	"portage/api"
)

// object is what the kinds of objects share.
type object interface {
	kind() int
	price() int          // what making it costs
	values() []api.Value // its own list, which stays inside of the layer
	told() api.Object    // a copy
}

type array struct {
	items []api.Value
}

func (a *array) kind() int           { return api.Array }
func (a *array) price() int          { return 2 + len(a.items) }
func (a *array) values() []api.Value { return a.items }
func (a *array) told() api.Object {
	return api.Object{Kind: api.Array, Items: slices.Clone(a.items)}
}

// record has few fields, so that a key is sought by going through them; a map of their places would have to be made anew whenever one is taken out.
type record struct {
	keys  []int64
	items []api.Value // of each key, at its place
}

func (r *record) kind() int           { return api.Record }
func (r *record) price() int          { return 2 }
func (r *record) values() []api.Value { return r.items }
func (r *record) told() api.Object {
	return api.Object{Kind: api.Record, Items: slices.Clone(r.items), Keys: slices.Clone(r.keys)}
}

type bound struct {
	fn    int
	items []api.Value
}

func (b *bound) kind() int           { return api.Bound }
func (b *bound) price() int          { return 2 + len(b.items) }
func (b *bound) values() []api.Value { return b.items }
func (b *bound) told() api.Object {
	return api.Object{Kind: api.Bound, Items: slices.Clone(b.items), Fn: b.fn}
}

type channel struct {
	room  int
	items []api.Value // the eldest first
	shut  bool
}

func (c *channel) kind() int           { return api.Chan }
func (c *channel) price() int          { return 2 + c.room }
func (c *channel) values() []api.Value { return c.items }
func (c *channel) told() api.Object {
	return api.Object{Kind: api.Chan, Items: slices.Clone(c.items), Cap: c.room, Shut: c.shut}
}
