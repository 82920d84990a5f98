package lift

import (
	"math"
	"math/rand"
	"slices"
	"testing"

	"portage/api"
	"portage/base"
	"portage/code"
	"portage/model"
	"portage/sample"
	"portage/states"
)

// P19.4 and P19.7: what Function answers is right, and stands for all instructions.
func TestLiftedIsRight(t *testing.T) {
	r := rand.New(rand.NewSource(194))
	for range 2000 {
		p := sample.Program(r, 60)
		f := factsOf(t, p)
		for fn := range p.Funcs {
			c := lifted(t, p, fn)
			if err := Check(p, f, c); err != api.OK {
				t.Fatalf("%v of %v: %+v", err, p.Funcs[fn], c)
			}
			n := 0
			for _, b := range c.Blocks {
				n += Steps(b)
				if b.Ins[len(b.Ins)-1].Op == api.RLeave {
					n++
				}
			}
			if n != len(p.Funcs[fn].Code) {
				t.Fatal("it stands for", n, "instructions of", len(p.Funcs[fn].Code))
			}
		}
	}
}

// The chapter's runs.
func TestGoExamples(t *testing.T) {
	p := example(t)
	x := lifted(t, p, 1)
	no := api.Value{}
	for _, c := range []struct {
		fuel, stop     int
		slot           api.Value
		why, pc, steps int
		slots          []api.Value
	}{
		{100, -1, whole(-2), api.LeftCode, 9, 17, []api.Value{whole(0), no}},
		{100, 5, whole(-2), api.LeftStop, 7, 7, []api.Value{whole(-1), val(api.Bool, 1)}},
		{10, -1, whole(-2), api.LeftFuel, 2, 10, []api.Value{whole(-1), whole(1), whole(-1)}},
		{1, -1, whole(-2), api.LeftFuel, 0, 0, []api.Value{whole(-2)}},
		{100, -1, no, api.LeftPlain, 2, 2, []api.Value{no, whole(1), no}},
	} {
		k := core(t, p, api.Limits{Fuel: c.fuel}, api.State{})
		left := model.Go(k, x, api.Frame{Fn: 1, Slots: []api.Value{c.slot}}, 99, c.stop)
		if left.Why != c.why || left.Steps != c.steps || k.Steps() != c.steps || !model.SameFrames(left.Frames, []api.Frame{{Fn: 1, PC: c.pc, Slots: c.slots}}) {
			t.Error(c, left)
		}
	}
}

// trial is register code that goes from a frame over one core, and the baseline over another that is alike.
type trial struct {
	p    api.Program
	l    api.Limits
	s    api.State
	code api.Code
	f    api.Frame
	room int
	stop int
}

// meets asks whether both come to the same (P19.5), and tells how the register code was left.
func (k trial) meets(t *testing.T) api.Left {
	t.Helper()
	one, other := core(t, k.p, k.l, k.s), core(t, k.p, k.l, k.s)
	left := model.Go(one, k.code, k.f, k.room, k.stop)
	frames, wrong := model.Walk(other, k.f, k.stop, left.Steps, api.OpCall, api.OpRet, api.OpThrow)
	if wrong != "" || !model.SameFrames(frames, left.Frames) {
		t.Fatalf("%s: the baseline comes to %v, and the register code to %+v", wrong, frames, left)
	}
	if !model.Alike(one, other) {
		t.Fatal("the register code's core holds", model.Held(one), one.Out(), "the baseline's", model.Held(other), other.Out())
	}
	k.reasons(t, other, left)
	return left
}

// reasons asks whether why the code was left is so, by what the baseline does there.
func (k trial) reasons(t *testing.T, c *base.Core, left api.Left) {
	t.Helper()
	f := left.Frames[0]
	op := k.p.Funcs[f.Fn].Code[f.PC].Op
	stops, fuel := model.Stops(c, api.Place{Fn: f.Fn, PC: f.PC}, k.stop), c.Left()
	e := c.Step(&api.Fiber{Frames: left.Frames})
	if !map[int]bool{
		api.LeftCode:  slices.Contains([]int{api.OpCall, api.OpRet, api.OpThrow, api.OpSpawn, api.OpYield, api.OpSend, api.OpRecv}, op),
		api.LeftPlain: e.Trap != 0 || e.Kind == api.EvHeap,
		api.LeftStop:  stops && code.Safe(k.p.Funcs[f.Fn].Code, f.PC),
		api.LeftFuel:  fuel < len(k.p.Funcs[f.Fn].Code),
	}[left.Why] {
		t.Fatal("left because of", left.Why, "at", op, "with", fuel, "steps, where the baseline comes to", e)
	}
}

// P19.5: register code and the baseline go one way, from every block, with every sort of room and stop.
func TestMeaningIsKept(t *testing.T) {
	r := rand.New(rand.NewSource(195))
	whys, long := map[int]int{}, 0
	for range 1500 {
		p := sample.Program(r, 30)
		f := factsOf(t, p)
		x := lifted(t, p, r.Intn(len(p.Funcs)))
		for _, b := range x.Blocks {
			s := sample.State(r, p)
			l := api.Limits{Fuel: s.Steps + r.Intn(60), Budget: r.Intn(60)}
			if r.Intn(2) == 0 {
				l = api.Limits{Fuel: 600, Budget: 2000}
			}
			frame := sample.Frame(r, p, f, s, api.Place{Fn: x.Fn, PC: b.PC})
			left := trial{p, l, s, x, frame, sample.Edge(r), r.Intn(40) - 10}.meets(t)
			whys[left.Why]++
			if left.Steps > 20 {
				long++
			}
		}
	}
	if min(whys[api.LeftFuel], whys[api.LeftStop], whys[api.LeftPlain], whys[api.LeftCode]) < 100 || long < 50 {
		t.Error("few ways:", whys, long)
	}
}

// P19.5: programs that go round many times, stopped at every step, and by every end of fuel.
func TestLoopsAreKept(t *testing.T) {
	for _, text := range []string{
		"func main 0 2\nint 12\nstore 0\nagain:\nload 0\nload 1\nswap\nadd\nstore 1\nload 0\nint 1\nsub\ndup\nstore 0\njnz again\nload 1\nret",
		"func main 0 2\narray 0\nstore 0\nint 0\nstore 1\nagain:\nload 0\nload 1\npush\nload 1\nint 1\nadd\nstore 1\nload 1\nint 5\nlt\njz out\njump again\nout:\nload 0\nlen\nprint\nload 0\nint 9\nget\nret",
		"func main 0 1\nagain:\njump on\nback:\njump again\non:\nread\ndup\nprint\nflip\njz back\nyield\nnil\nret",
		"func main 0 0\nself:\njump self",
		"func main 0 0\nint 3\nagain:\nint 1\nsub\ndup\nint 0\nne\njnz again\npop\nint 0\nint 0\ndiv\nto:\nret\nhandler again to to 0",
	} {
		p := parsed(t, text)
		x := lifted(t, p, 0)
		f := api.Frame{Slots: make([]api.Value, p.Funcs[0].Locals)}
		for fuel := range 130 {
			for stop := -1; stop < 130; stop += 1 + fuel%7 {
				trial{p, api.Limits{Fuel: fuel, Budget: 40}, api.State{}, x, f, 99, stop}.meets(t)
			}
		}
	}
}

// P19.6: any right register code leaves, pays no more than there is, and leaves right frames.
func TestRightCodeLeaves(t *testing.T) {
	r := rand.New(rand.NewSource(196))
	whys, two := map[int]int{}, 0
	for range 2000 {
		p := sample.Program(r, 25)
		f := factsOf(t, p)
		x := sample.Code(r, p, f, lifted(t, p, r.Intn(len(p.Funcs))))
		if err := Check(p, f, x); err != api.OK {
			t.Fatal("drawn code is", err)
		}
		for _, b := range x.Blocks {
			s := sample.State(r, p)
			c := core(t, p, api.Limits{Fuel: s.Steps + r.Intn(300), Budget: r.Intn(300)}, s)
			before := c.Left()
			left := model.Go(c, x, sample.Frame(r, p, f, s, api.Place{Fn: x.Fn, PC: b.PC}), r.Intn(3), r.Intn(100)-50)
			whys[left.Why]++
			two += len(left.Frames) - 1
			if left.Steps < 0 || left.Steps > before || c.Left() != before-left.Steps {
				t.Fatal("paid", left.Steps, "of", before, "and left are", c.Left())
			}
			// The frames stand in a fiber that does not run, so that one at a channel is no fault.
			s = model.Held(c)
			s.Fibers = []api.Fiber{{Frames: []api.Frame{{Slots: make([]api.Value, p.Funcs[0].Locals)}}}, {Frames: left.Frames}}
			if err := states.Check(p, f, s); err != api.OK {
				t.Fatalf("%v: %+v of %+v", err, left, x)
			}
		}
	}
	if len(whys) != 5 || two < 50 {
		t.Error("few ways:", whys, two)
	}
}

// P19.6: what goes round and round ends with the fuel.
func TestRoundEnds(t *testing.T) {
	p := parsed(t, "func main 0 0\nself:\njump self")
	left := model.Go(core(t, p, api.Limits{Fuel: 1000}, api.State{}), lifted(t, p, 0), api.Frame{}, math.MaxInt, math.MinInt)
	if left.Why != api.LeftFuel || left.Steps != 1000 {
		t.Error(left)
	}
}
