package states

import (
	"math/rand"
	"testing"

	"portage/api"
)

// P15.4: the chapter's examples.
func TestAsksExamples(t *testing.T) {
	p, _ := example(t)
	s := at(2, val(api.Nil, 0))
	if !Safe(p, s) || Blocked(p, s, 0) {
		t.Error("nil at 2")
	}
	if s = (api.State{}); Safe(p, s) || Blocked(p, s, 0) {
		t.Error("no fibers at all")
	}
}

// P15.4: which instructions are safepoints, of whichever fiber runs; slots don't matter.
func TestSafe(t *testing.T) {
	p, _ := yard(t)
	for fn := range p.Funcs {
		for pc, i := range p.Funcs[fn].Code {
			want := i.Op == api.OpCall || (i.Op == api.OpJump || i.Op == api.OpJz || i.Op == api.OpJnz) && int(i.A) <= pc
			s := api.State{Fibers: []api.Fiber{{}, fiber(frame(0, 0), frame(fn, pc)), fiber(frame(fn, pc), frame(0, 0))}}
			for k, safe := range []bool{false, want, false, false} {
				s.Current = k
				if Safe(p, s) != safe {
					t.Errorf("Safe of %d %d in fiber %d is not %v", fn, pc, k, safe)
				}
			}
		}
	}
	for _, n := range edges() {
		call := frame(yardMain, mainCall)
		for _, s := range []api.State{
			{Fibers: []api.Fiber{fiber(call), fiber(call), fiber(call)}, Current: n},
			{Fibers: []api.Fiber{fiber(frame(n, mainCall))}},
			{Fibers: []api.Fiber{fiber(frame(yardMain, n))}},
		} {
			if Safe(p, s) != safe(p, s) {
				t.Errorf("%+v: Safe is %v", s, Safe(p, s))
			}
		}
	}
}

// waiter is a state with one fiber at a send or recv, whose last frame has these slots, and channels of all sorts.
func waiter(fn, pc int, slots ...api.Value) api.State {
	return api.State{
		Texts: []string{"0", "1", "2"},
		Objects: []api.Object{
			{Kind: api.Chan, Cap: 1},
			{Kind: api.Chan, Cap: 1, Items: nils(1)},
			{Kind: api.Chan, Cap: 2, Items: nils(1)},
			{Kind: api.Chan, Cap: 1, Shut: true},
			{Kind: api.Chan, Cap: 1, Items: nils(1), Shut: true},
			{Kind: api.Chan, Cap: 1, Items: nils(2)},
			{Kind: api.Chan},
			{Kind: api.Chan, Cap: -1, Items: nils(1)},
			{Kind: api.Array},
			{Kind: api.Chan + 1},
		},
		Fibers: []api.Fiber{fiber(frame(fn, pc, slots...)), {}, fiber(frame(yardBare, 0))},
	}
}

// P15.4: send waits for room, recv for a value; what is shut keeps nobody waiting.
func TestBlocked(t *testing.T) {
	p, _ := yard(t)
	send := []bool{false, true, false, false, false, true, true, true, false, false}
	recv := []bool{true, false, false, false, false, false, true, false, false, false}
	for n := range send {
		c := val(api.Chan, int64(n))
		for k, s := range []api.State{
			waiter(yardMain, mainSend, c, val(api.Nil, 0)),
			waiter(yardMain, mainSend, val(api.Nil, 0), c, c),
			waiter(yardTake, takeRecv, c),
			waiter(yardMain, mainRecv, val(api.Nil, 0), val(api.Nil, 0), c),
		} {
			want := send[n]
			if k >= 2 {
				want = recv[n]
			}
			if Blocked(p, s, 0) != want || waits(p, s, 0) != want {
				t.Errorf("%+v: Blocked is not %v", s, want)
			}
			if !Blocked(p, s, 1) || Blocked(p, s, 2) {
				t.Error("the other fibers")
			}
		}
	}
}

// P15.4: what is no channel, lies elsewhere on the stack or is at another instruction keeps nobody waiting.
func TestNotBlocked(t *testing.T) {
	p, _ := yard(t)
	full, empty, none := val(api.Chan, 1), val(api.Chan, 0), val(api.Nil, 0)
	for k, s := range []api.State{
		waiter(yardMain, mainSend),
		waiter(yardMain, mainSend, full),
		waiter(yardMain, mainSend, none, full),
		waiter(yardMain, mainSend, full, none, none),
		waiter(yardMain, mainRecv),
		waiter(yardMain, mainRecv, empty, none),
		waiter(yardMain, mainSend, val(api.Int, 1), none),
		waiter(yardMain, mainSend, val(api.Text, 1), none),
		waiter(yardMain, mainSend, val(api.Array, 1), none),
		waiter(yardMain, mainSend, val(api.Chan, -1), none),
		waiter(yardMain, mainSend, val(api.Chan, 10), none),
		waiter(yardMain, mainRecv, val(api.Array, 8)),
		waiter(yardMain, mainRecv, val(api.Chan+1, 9)),
		waiter(yardMain, mainRecv, val(api.Record, 0)),
		waiter(yardMain, mainCall, full, empty),
		waiter(yardMain, mainBack, full, empty),
		waiter(yardMain, 99, full, empty),
		waiter(yardMain, -1, full, empty),
		waiter(99, mainSend, full, none),
		waiter(-1, mainRecv, empty),
	} {
		if Blocked(p, s, 0) || waits(p, s, 0) {
			t.Errorf("state %d: Blocked", k)
		}
	}
}

// P15.4: the last frame alone is asked, and the fiber of that number alone; there is none of other numbers.
func TestBlockedWhere(t *testing.T) {
	p, _ := yard(t)
	sends, other := frame(yardMain, mainSend, val(api.Chan, 1), val(api.Nil, 0)), frame(yardBare, 0)
	s := waiter(0, 0)
	s.Fibers = []api.Fiber{fiber(sends, other), fiber(other, sends), {}}
	for _, n := range edges() {
		if Blocked(p, s, n) != (n == 1 || n == 2) {
			t.Errorf("Blocked of %d is %v", n, Blocked(p, s, n))
		}
	}
}

// P15.4: Safe and Blocked of states that may be anything, at every instruction.
func TestAsksDrawn(t *testing.T) {
	p, f := yard(t)
	r := rand.New(rand.NewSource(154))
	blocked, safes := 0, 0
	for range 20000 {
		s := drawn(r, p, f)
		if Safe(p, s) != safe(p, s) {
			t.Fatalf("%+v: Safe is %v", s, Safe(p, s))
		}
		if safe(p, s) {
			safes++
		}
		for k := -1; k <= len(s.Fibers); k++ {
			want := waits(p, s, k)
			if Blocked(p, s, k) != want {
				t.Fatalf("%+v: Blocked of %d is not %v", s, k, want)
			}
			if want && len(s.Fibers[k].Frames) > 0 {
				blocked++
			}
		}
	}
	if blocked < 100 || safes < 1000 {
		t.Error(blocked, safes)
	}
}
