package heap

import (
	"testing"

	"portage/api"
)

// P6.8: channels of every room are filled, refuse one more, and are emptied in order, round and round.
func TestSendAndRecv(t *testing.T) {
	for room := 1; room <= 64; room++ {
		h := New(2+room, 0)
		c, _ := h.Chan(room)
		next, out := int64(0), int64(0)
		for turn := range 4 {
			for {
				ok, trap := h.Send(c, num(next))
				if trap != 0 {
					t.Fatal("Send", trap)
				}
				if !ok {
					break
				}
				next++
			}
			if next-out != int64(room) {
				t.Fatalf("%d wait in a room of %d", next-out, room)
			}
			for range room/2 + turn%2 {
				v, ok, trap := h.Recv(c)
				if v != num(out) || !ok || trap != 0 {
					t.Fatalf("Recv = %v %v %d, not %d", v, ok, trap, out)
				}
				out++
			}
		}
		for ; out < next; out++ {
			if v, ok, trap := h.Recv(c); v != num(out) || !ok || trap != 0 {
				t.Fatalf("Recv = %v %v %d, not %d", v, ok, trap, out)
			}
		}
		if v, ok, trap := h.Recv(c); v != (api.Value{}) || ok || trap != 0 {
			t.Errorf("Recv of an empty one = %v %v %d", v, ok, trap)
		}
		holds(t, h, 2+room, api.Object{Kind: api.Chan, Cap: room})
	}
}

// P6.8: what waits in a channel that is shut comes out, then nil; nothing goes in, full or not.
func TestShut(t *testing.T) {
	for n := range 4 {
		h := loaded(t, 0, 0, api.Object{Kind: api.Chan, Cap: 3, Items: nums(1, n)})
		c := named(api.Chan, 0)
		if trap := h.Shut(c); trap != 0 {
			t.Error("Shut", trap)
		}
		holds(t, h, 0, api.Object{Kind: api.Chan, Cap: 3, Items: nums(1, n), Shut: true})
		for i := range n + 2 {
			if trap := h.Shut(c); trap != api.TrapClosed {
				t.Error("Shut again", trap)
			}
			if ok, trap := h.Send(c, num(9)); ok || trap != api.TrapClosed {
				t.Error("Send", ok, trap)
			}
			want := api.Value{}
			if i < n {
				want = num(int64(1 + i))
			}
			if v, ok, trap := h.Recv(c); v != want || !ok || trap != 0 {
				t.Errorf("Recv = %v %v %d, not %v", v, ok, trap, want)
			}
		}
		holds(t, h, 0, api.Object{Kind: api.Chan, Cap: 3, Shut: true})
	}
}

// P6.8: a nil that waits is told apart from none by nothing but true.
func TestNilWaits(t *testing.T) {
	h := New(9, 0)
	c, _ := h.Chan(1)
	h.Send(c, api.Value{})
	for _, want := range []bool{true, false} {
		if v, ok, trap := h.Recv(c); v != (api.Value{}) || ok != want || trap != 0 {
			t.Error("Recv", v, ok, trap)
		}
	}
}

// P6.8: of what names no channel the trap is type.
func TestNoChannel(t *testing.T) {
	for _, shut := range []bool{false, true} {
		h, want := four(t), four(t)
		if shut {
			h.Shut(named(api.Chan, 3))
			want.Shut(named(api.Chan, 3))
		}
		for _, v := range strangers(api.Chan) {
			if ok, trap := h.Send(v, num(1)); ok || trap != api.TrapType {
				t.Errorf("Send(%v) = %v %d", v, ok, trap)
			}
			if x, ok, trap := h.Recv(v); x != (api.Value{}) || ok || trap != api.TrapType {
				t.Errorf("Recv(%v) = %v %v %d", v, x, ok, trap)
			}
			if trap := h.Shut(v); trap != api.TrapType {
				t.Errorf("Shut(%v) = %d", v, trap)
			}
		}
		alike(t, h, want)
	}
}
