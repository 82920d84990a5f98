package base

import (
	"slices"
	"strconv"
	"strings"
	"testing"

	"portage/api"
)

// A fiber goes as deep as it may and comes back, again and again.
func TestDeep(t *testing.T) {
	p := api.Program{Funcs: []api.Function{
		{Name: "main", Code: list(ins(api.OpFunc, 1), ins(api.OpInt, 1), ins(api.OpCall, 1), ins(api.OpPop), ins(api.OpJump, 0))},
		{Name: "down", Params: 1, Locals: 1, Code: list(ins(api.OpFunc, 1), ins(api.OpLoad, 0), ins(api.OpInt, 1), ins(api.OpAdd), ins(api.OpCall, 1), ins(api.OpRet), ins(api.OpPop), ins(api.OpLoad, 0), ins(api.OpRet)),
			Handlers: []api.Handler{{From: 4, To: 5, Target: 6}}},
	}}
	c, f := begun(t, p, 200000, 0), fiber(frame(0, 0))
	deepest, traps, backs := 0, 0, 0
	for c.Left() > 0 {
		e := c.Step(f)
		if e.Kind != api.EvStep {
			t.Fatal(e)
		}
		deepest = max(deepest, len(f.Frames))
		if e.Trap == api.TrapDeep {
			traps++
			if top := f.Frames[99]; !sameFrame(top, frame(1, 6, whole(99), txt(0))) {
				t.Fatal("deep", top)
			}
		}
		if top := f.Frames[0]; len(f.Frames) == 1 && top.PC == 3 {
			backs++
			if !sameFrame(top, frame(0, 3, whole(99))) {
				t.Fatal("back", top)
			}
		}
	}
	if deepest != api.MaxFrames || traps < 300 || traps-backs > 1 || c.World().Texts.Len() != 1 {
		t.Error("at most", deepest, "frames,", traps, "traps,", backs, "times back")
	}
}

// The greatest number of locals and values, at the top of a full stack.
func TestWide(t *testing.T) {
	var code []api.Instr
	for k := range int64(64) {
		code = append(code, ins(api.OpInt, k))
	}
	code = append(code, ins(api.OpStore, 63), ins(api.OpLoad, 63), ins(api.OpArray, 63), ins(api.OpCall, 1), ins(api.OpRet))
	p := alone(64, code)
	c, f := begun(t, p, 99, 99), fiber(frame(0, 0, make([]api.Value, 64)...))
	for range 66 {
		if e := c.Step(f); e != (api.Event{}) {
			t.Fatal(e)
		}
	}
	if s := f.Frames[0].Slots; len(s) != 128 || s[63] != whole(63) || s[127] != whole(63) || s[64] != whole(0) || s[126] != whole(62) || s[62] != (api.Value{}) {
		t.Fatal("slots", s)
	}
	if e := c.Step(f); e != (api.Event{}) || !slices.Equal(f.Frames[0].Slots[64:], vals(whole(0), val(api.Array, 0))) || c.World().Heap.Spent() != 65 {
		t.Fatal("array", e, f.Frames[0].Slots)
	}
	if e := c.Step(f); e.Trap != api.TrapType || e.Kind != api.EvThrown {
		t.Error("call", e)
	}
}

// The greatest input of the longest texts, read to its end; and long outputs.
func TestLongInput(t *testing.T) {
	var input []string
	for k := range api.MaxInput {
		text := strconv.Itoa(k)
		input = append(input, strings.Repeat("a", api.MaxText-len(text))+text)
	}
	p := alone(0, list(ins(api.OpRead), ins(api.OpDup), ins(api.OpJz, 5), ins(api.OpPop), ins(api.OpJump, 0), ins(api.OpRet)))
	c, f := begun(t, p, api.MaxFuel, api.MaxBudget, input...), fiber(frame(0, 0))
	for {
		e := c.Step(f)
		if e.Kind == api.EvHeap { // 255 of them cost as much as there is
			break
		}
		if e.Kind != api.EvStep {
			t.Fatal(e)
		}
	}
	if n := api.MaxBudget / (1 + api.MaxText); c.Read() != n || c.World().Texts.Len() != n+len(texts(p)) || c.World().Heap.Spent() != n*(1+api.MaxText) || c.Steps() != 5*n {
		t.Error(c.Read(), "read,", c.Steps(), "steps")
	}
	short := make([]string, api.MaxInput)
	c, f = begun(t, p, api.MaxFuel, api.MaxBudget, short...), fiber(frame(0, 0))
	for c.Step(f).Kind == api.EvStep {
	}
	if c.Read() != api.MaxInput || c.World().Heap.Spent() != api.MaxInput || c.Steps() != 5*api.MaxInput+4 {
		t.Error(c.Read(), "read,", c.Steps(), "steps")
	}
	p = alone(0, list(ins(api.OpConst, 3), ins(api.OpPrint), ins(api.OpJump, 0)))
	c, f = begun(t, p, api.MaxFuel, 50000), fiber(frame(0, 0))
	for c.Step(f).Kind == api.EvStep {
	}
	if len(c.Out()) != 50000 || c.Steps() != 150001 || f.Frames[0].PC != 1 {
		t.Error(len(c.Out()), "printed in", c.Steps())
	}
}

// texts are the unlike texts of a program's constants.
func texts(p api.Program) []string {
	var l []string
	for _, c := range p.Consts {
		if c.Kind == api.Text && !slices.Contains(l, c.Text) {
			l = append(l, c.Text)
		}
	}
	return l
}

// All the fuel that there may be.
func TestAllFuel(t *testing.T) {
	if testing.Short() {
		t.Skip("long")
	}
	p := alone(1, list(ins(api.OpInt), ins(api.OpStore), ins(api.OpLoad), ins(api.OpInt, 1), ins(api.OpAdd), ins(api.OpStore), ins(api.OpJump, 2)))
	c, f := begun(t, p, api.MaxFuel, 0), fiber(frame(0, 0, api.Value{}))
	for c.Step(f).Kind == api.EvStep {
	}
	if c.Steps() != api.MaxFuel || c.Left() != 0 || f.Frames[0].Slots[0] != whole((api.MaxFuel-1)/5) {
		t.Error(c.Steps(), "steps,", *f)
	}
}
