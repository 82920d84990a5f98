package heap

import (
	"math/rand"
	"slices"
	"testing"

	"portage/api"
)

// call is one call, with all that any of them is given.
type call struct {
	what  int
	v, x  api.Value
	n     int64
	items []api.Value
}

// answer is all that any of them answers.
type answer struct {
	v    api.Value
	n    int64
	trap int
	ok   bool
}

const callKinds = 17

// on makes the call.
func (c call) on(h calls) (a answer) {
	switch c.what {
	case 0:
		a.ok = h.Spend(int(c.n))
	case 1:
		a.v, a.ok = h.Array(c.items)
	case 2:
		a.v, a.ok = h.Record()
	case 3:
		a.v, a.ok = h.Bound(int(c.n), c.items)
	case 4:
		a.v, a.ok = h.Chan(int(c.n))
	case 5:
		a.v, a.trap = h.Get(c.v, c.n)
	case 6:
		a.trap = h.Set(c.v, c.n, c.x)
	case 7:
		a.trap, a.ok = h.Push(c.v, c.x)
	case 8:
		a.n, a.trap = h.Size(c.v)
	case 9:
		a.v, a.trap = h.Field(c.v, c.n)
	case 10:
		a.trap, a.ok = h.SetField(c.v, c.n, c.x)
	case 11:
		a.ok, a.trap = h.Has(c.v, c.n)
	case 12:
		a.trap = h.Delete(c.v, c.n)
	case 13:
		a.v, a.trap, a.ok = h.Keys(c.v)
	case 14:
		a.ok, a.trap = h.Send(c.v, c.x)
	case 15:
		a.v, a.ok, a.trap = h.Recv(c.v)
	case 16:
		a.trap = h.Shut(c.v)
	}
	return a
}

// free tells whether a call never costs anything.
func (c call) free() bool {
	return c.what == 5 || c.what == 6 || c.what == 8 || c.what == 9 || c.what == 11 || c.what == 12 || c.what >= 14
}

// kindOf is the kind of the objects that a call works on.
func (c call) kindOf() int {
	switch {
	case c.what >= 14:
		return api.Chan
	case c.what >= 9:
		return api.Record
	}
	return api.Array
}

// drawn is a call by chance: mostly of an object that fits, now and then of anything.
func drawn(r *rand.Rand, h calls) call {
	value := func() api.Value {
		if n := h.Len(); n > 0 && r.Intn(2) == 0 {
			i := r.Intn(n)
			o, _ := h.Object(i)
			return named(o.Kind, i)
		}
		return row(api.Value{}, num(int64(r.Intn(9))), named(api.Bool, r.Intn(2)), named(api.Text, r.Intn(9)), named(api.Func, r.Intn(9)))[r.Intn(5)]
	}
	c := call{what: r.Intn(callKinds), x: value(), n: int64(r.Intn(6) - 1)}
	for range r.Intn(4) {
		c.items = append(c.items, value())
	}
	c.v = value()
	for range 20 {
		if c.v.Kind == c.kindOf() || r.Intn(30) == 0 {
			break
		}
		c.v = value()
	}
	return c
}

// Rows of calls by chance answer as the document's words do, and leave the same.
func TestAgainstTheModel(t *testing.T) {
	r := rand.New(rand.NewSource(1))
	for range 400 {
		budget, spent := r.Intn(120)-5, r.Intn(20)-5
		h, m := New(budget, spent), newModel(budget, spent)
		for range 150 {
			c := drawn(r, m)
			if got, want := c.on(h), c.on(m); got != want {
				t.Fatalf("%+v of %v = %+v, not %+v", c, m, got, want)
			}
			alike(t, h, m)
		}
	}
}

// P6.11: what is spent never goes back nor above the budget, grows by what was done alone, and behind a trap or a false nothing has changed.
func TestSpentGrows(t *testing.T) {
	r := rand.New(rand.NewSource(2))
	for range 200 {
		budget := r.Intn(150)
		h := New(budget, r.Intn(budget+1))
		for range 100 {
			c := drawn(r, h)
			spent, before := h.Spent(), told(h)
			a := c.on(h)
			if h.Spent() < spent || h.Spent() > budget {
				t.Fatalf("%+v: from %d to %d of %d", c, spent, h.Spent(), budget)
			}
			if c.free() && h.Spent() != spent {
				t.Fatalf("%+v costs %d", c, h.Spent()-spent)
			}
			if a.trap != 0 || !a.ok && !c.free() {
				if h.Spent() != spent || !slices.EqualFunc(told(h), before, same) {
					t.Fatalf("%+v = %+v changed something", c, a)
				}
			}
		}
	}
}

// P6.12: what is sent comes out in order, each once, and no more than Cap wait.
func TestChannelsInOrder(t *testing.T) {
	r := rand.New(rand.NewSource(3))
	for room := 1; room <= 64; room += 3 {
		h := New(100, 0)
		c, _ := h.Chan(room)
		sent, got := int64(0), int64(0)
		for range 2000 {
			if r.Intn(2) == 0 {
				if ok, _ := h.Send(c, num(sent)); ok {
					sent++
				} else if sent-got != int64(room) {
					t.Fatalf("%d wait, and no more are taken in a room of %d", sent-got, room)
				}
			} else if v, ok, _ := h.Recv(c); ok {
				if v != num(got) {
					t.Fatalf("%v came out, not %d", v, got)
				}
				got++
			} else if sent != got {
				t.Fatal("nothing came out")
			}
			if n, _ := h.Size(c); n != sent-got || n > int64(room) {
				t.Fatalf("%d wait", n)
			}
		}
	}
}

// P6.13: no key is there twice; the order is that in which each was last put in anew.
func TestFieldsInOrder(t *testing.T) {
	r := rand.New(rand.NewSource(4))
	for range 50 {
		h := New(5000, 0)
		v, _ := h.Record()
		born := map[int64]int{}
		for at := range 500 {
			key := int64(r.Intn(12) - 3)
			if r.Intn(3) == 0 {
				h.Delete(v, key)
				delete(born, key)
			} else if _, ok := born[key]; !ok {
				h.SetField(v, key, num(1))
				born[key] = at
			} else {
				h.SetField(v, key, num(2))
			}
			o, _ := h.Object(0)
			if len(o.Keys) != len(born) || len(o.Items) != len(born) {
				t.Fatalf("%d keys, %d items of %d", len(o.Keys), len(o.Items), len(born))
			}
			for i := 1; i < len(o.Keys); i++ {
				if born[o.Keys[i-1]] >= born[o.Keys[i]] {
					t.Fatalf("the order is %v", o.Keys)
				}
			}
		}
	}
}

// P6.15: Load of a heap's objects is the same heap, and goes on like it.
func TestLoadOfWhatIsTold(t *testing.T) {
	r := rand.New(rand.NewSource(5))
	for range 200 {
		h := New(200, 0)
		for range 60 {
			c := drawn(r, h)
			if c.n < 0 {
				c.n = 0
			}
			c.on(h)
		}
		g := loaded(t, 200, h.Spent(), told(h)...)
		alike(t, g, h)
		for range 60 {
			c := drawn(r, h)
			if a, b := c.on(g), c.on(h); a != b {
				t.Fatalf("%+v = %+v, not %+v", c, a, b)
			}
			alike(t, g, h)
		}
	}
}

// P6.16: with more budget all is alike, up to the first call that finds no room in the lesser one alone.
func TestMoreRoom(t *testing.T) {
	r := rand.New(rand.NewSource(7))
	parted := 0
	for range 400 {
		spent := r.Intn(20)
		less := spent + r.Intn(80) - 10
		g, h := New(less, spent), New(less+1+r.Intn(30), spent)
		for range 120 {
			c := drawn(r, h)
			before, was := told(h), h.Spent()
			a, b := c.on(g), c.on(h)
			if a == b && g.Spent() == h.Spent() {
				alike(t, g, h)
				continue
			}
			parted++
			if a != (answer{}) || g.Spent() != was || !slices.EqualFunc(told(g), before, same) || h.Spent() <= less {
				t.Fatalf("%+v = %+v with a budget of %d and %d spent, %+v with more", c, a, less, was, b)
			}
			break
		}
	}
	if parted < 100 {
		t.Error("only", parted, "ran out of room")
	}
}
