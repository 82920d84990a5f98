package model_test

import (
	"testing"

	"portage/api"
	"portage/asm"
	"portage/base"
	"portage/model"
)

func reg(n int64) api.Opnd { return api.Opnd{N: n} }

func begun(t *testing.T, text string, fuel int) *base.Core {
	t.Helper()
	p, line, err := asm.Parse(text)
	if err != api.OK {
		t.Fatal(err, "in line", line)
	}
	c, err := base.New(p, api.Limits{Fuel: fuel, Budget: 100}, nil, api.State{})
	if err != api.OK {
		t.Fatal(err)
	}
	return c
}

// A guard, a callee and a branch by hand: what leaves, at what, with how many frames and steps.
func TestGo(t *testing.T) {
	text := "func main 0 1\nfunc one\ncall 0\nret\nfunc one 0 0\nint 1\nret"
	exit := []api.Shape{{PC: 0, Slots: []api.Opnd{reg(0)}}}
	both := []api.Shape{{PC: 1, Slots: []api.Opnd{reg(0)}}, {Fn: 1}}
	point := api.RIns{Op: api.RPoint, Dst: -1, Need: 2, Exit: exit}
	guard := api.RIns{Op: api.RGuard, Dst: -1, N: api.Int, Args: []api.Opnd{reg(0)}, Exit: exit}
	callee := api.RIns{Op: api.RCallee, Dst: -1, N: 1, Args: []api.Opnd{{Kind: api.AtFunc, N: 1}}, Need: 1, Exit: both}
	add := api.RIns{Op: api.RPure, Code: api.OpAdd, N: api.Int, Args: []api.Opnd{reg(0), {Kind: api.AtInt, N: 4}}}
	again := api.RIns{Op: api.RBranch, Code: api.OpJz, Dst: -1, Args: []api.Opnd{{Kind: api.AtNil}}}
	c := api.Code{Regs: 1, Blocks: []api.Block{{Ins: []api.RIns{point, guard, callee, add, again}, Next: []int{0, 0}}}}
	whole := api.Value{Kind: api.Int, N: 5}
	for _, x := range []struct {
		slot                                 api.Value
		fuel, room, stop, why, frames, steps int
		last                                 int64
	}{
		{api.Value{}, 100, 1, -1, api.LeftGuard, 1, 2, 0},
		{whole, 100, 0, -1, api.LeftGuard, 2, 2, 5},
		{whole, 11, 1, -1, api.LeftFuel, 2, 11, 17},
		{whole, 1, 1, -1, api.LeftFuel, 1, 0, 5},
	} {
		core := begun(t, text, x.fuel)
		left := model.Go(core, c, api.Frame{Slots: []api.Value{x.slot}}, x.room, x.stop)
		if left.Why != x.why || left.Steps != x.steps || core.Steps() != x.steps || len(left.Frames) != x.frames || left.Frames[0].Slots[0].N != x.last {
			t.Error(x, left)
		}
	}
}

// Walk tells each thing that is wrong on its way, and comes to the baseline's frames.
func TestWalk(t *testing.T) {
	text := "func main 0 1\nagain:\nload 0\nint 1\nadd\nstore 0\njump again"
	from := api.Frame{Slots: []api.Value{{Kind: api.Int}}}
	for _, x := range []struct {
		fuel, stop, steps int
		ban               int
		good              bool
	}{
		{100, -1, 7, api.OpCall, true}, {100, 4, 4, api.OpCall, true}, {100, 4, 5, api.OpCall, false},
		{100, 5, 5, api.OpCall, true}, {3, -1, 4, api.OpCall, false}, {100, -1, 5, api.OpJump, false},
	} {
		frames, wrong := model.Walk(begun(t, text, x.fuel), from, x.stop, x.steps, x.ban)
		if (wrong == "") != x.good || len(frames) != 1 {
			t.Error(x, frames, wrong)
		}
	}
	if frames, wrong := model.Walk(begun(t, "func main 0 0\nnil\nret", 9), api.Frame{}, -1, 3); wrong == "" || len(frames) != 0 {
		t.Error("behind the end", frames, wrong)
	}
	if _, wrong := model.Walk(begun(t, text, 9), api.Frame{Slots: []api.Value{{}}}, -1, 3); wrong == "" {
		t.Error("a trap is a step")
	}
}

// Two cores are alike just as long as they hold and printed the same.
func TestAlike(t *testing.T) {
	text := "func main 0 0\nnil\nprint\narray 0\nret"
	a, b := begun(t, text, 9), begun(t, text, 9)
	x, y := &api.Fiber{Frames: []api.Frame{{}}}, &api.Fiber{Frames: []api.Frame{{}}}
	for range 4 {
		a.Step(x)
		if model.Alike(a, b) {
			t.Error("a step more is not seen")
		}
		b.Step(y)
		if !model.Alike(a, b) {
			t.Error("the same steps differ")
		}
	}
}
