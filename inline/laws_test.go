package inline

import (
	"maps"
	"math/rand"
	"slices"
	"testing"

	"portage/api"
	"portage/base"
	"portage/lift"
	"portage/model"
	"portage/sample"
)

// P20.3 and P20.5: what Run answers is right, replaced blocks alone stand for more, and Run of it changes nothing more.
func TestRunIsRight(t *testing.T) {
	r := rand.New(rand.NewSource(203))
	made := 0
	for range 1500 {
		p := sample.Caller(r, 40)
		f, prof := factsOf(t, p), sample.Profile(r, p)
		for fn := range p.Funcs {
			c := lifted(t, p, fn)
			if r.Intn(2) == 0 {
				c = sample.Code(r, p, f, c)
			}
			d := Run(p, f, c, prof)
			if err := lift.Check(p, f, d); err != api.OK {
				t.Fatalf("%v of %+v", err, d)
			}
			if !sample.Same(Run(p, f, d, prof), d) {
				t.Fatal("Run once more of", d)
			}
			made += grown(t, p, c, d)
			if !sample.Same(Run(p, f, c, unseen(prof)), c) {
				t.Fatal("no Callee is above 0, and this is changed", c)
			}
		}
	}
	if made < 1000 {
		t.Error("few were replaced:", made)
	}
}

// unseen is a profile like another, in which no Callee is above 0.
func unseen(f api.Profile) api.Profile {
	var out api.Profile
	for _, l := range f.Funcs {
		l = slices.Clone(l)
		for pc := range l {
			l[pc].Callee = min(l[pc].Callee, 0)
		}
		out.Funcs = append(out.Funcs, l)
	}
	return out
}

// grown asks whether just the blocks whose call was replaced stand for as many steps more as they should, and tells how many these are.
func grown(t *testing.T, p api.Program, c, d api.Code) int {
	t.Helper()
	n := 0
	for k, b := range c.Blocks {
		if sample.SameBlock(b, d.Blocks[k]) {
			continue
		}
		n++
		first := d.Blocks[k].Ins[len(b.Ins)-1]
		if first.Op != api.RCallee {
			t.Fatal("no RCallee in the place of the leave:", d.Blocks[k])
		}
		if lift.Steps(d.Blocks[k]) != lift.Steps(b)+1+len(p.Funcs[first.N].Code) {
			t.Fatal("steps of", d.Blocks[k], "were", lift.Steps(b))
		}
	}
	return n
}

// trial is register code that goes from a frame over one core, and the baseline over another that is alike.
type trial struct {
	p    api.Program
	l    api.Limits
	s    api.State
	code api.Code
	f    api.Frame
	room int
	stop int
}

// meets asks whether both come to the same (P20.4), and tells how the register code was left.
func (k trial) meets(t *testing.T) api.Left {
	t.Helper()
	one, other := core(t, k.p, k.l, k.s), core(t, k.p, k.l, k.s)
	left := model.Go(one, k.code, k.f, k.room, k.stop)
	frames, wrong := model.Walk(other, k.f, k.stop, left.Steps)
	if wrong != "" || !model.SameFrames(frames, left.Frames) {
		t.Fatalf("%s: the baseline comes to %v, and the register code to %+v\n%+v", wrong, frames, left, k.code)
	}
	if !model.Alike(one, other) {
		t.Fatal("the register code's core holds", model.Held(one), one.Out(), "the baseline's", model.Held(other), other.Out())
	}
	if left.Why == api.LeftStop && !model.Stops(other, api.Place{Fn: frames[len(frames)-1].Fn, PC: frames[len(frames)-1].PC}, k.stop) {
		t.Fatal("stopped at no safepoint", left)
	}
	return left
}

// turned is lifted code behind some passes.
func turned(r *rand.Rand, p api.Program, f api.Facts, c api.Code) api.Code {
	for range r.Intn(6) {
		switch r.Intn(7) {
		case 0:
			c = guessed(c, sample.Profile(r, p))
		case 1, 2, 3:
			c = carried(c)
		case 4:
			c = settled(c)
		case 5:
			c = pruned(c)
		default:
			c = Run(p, f, c, sample.Profile(r, p))
		}
	}
	return c
}

// P20.4: register code and the baseline go one way, from every block, with every sort of room and stop, behind all sorts of passes.
func TestMeaningIsKept(t *testing.T) {
	r := rand.New(rand.NewSource(204))
	whys, two, entered, homeless := map[int]int{}, 0, 0, 0
	for range 2500 {
		p := sample.Caller(r, 30)
		f := factsOf(t, p)
		before := turned(r, p, f, lifted(t, p, r.Intn(3)))
		x := Run(p, f, before, sample.Profile(r, p))
		if err := lift.Check(p, f, x); err != api.OK {
			t.Fatal(err)
		}
		for _, b := range x.Blocks {
			homeless += moved(p, b)
			s := sample.State(r, p)
			l := api.Limits{Fuel: s.Steps + r.Intn(60), Budget: r.Intn(60)}
			if r.Intn(2) == 0 {
				l = api.Limits{Fuel: 600, Budget: 2000}
			}
			frame := sample.Frame(r, p, f, s, api.Place{Fn: x.Fn, PC: b.PC})
			stop := r.Intn(60) - 30
			left := trial{p, l, s, x, frame, []int{-1, 0, 1, 2, 99, 99}[r.Intn(6)], stop}.meets(t)
			whys[left.Why]++
			two += len(left.Frames) - 1
			if n := lift.Steps(b); n > 0 && left.Steps > n && len(replaced(before, x)) > 0 {
				entered++
			}
		}
	}
	if len(whys) != 5 || slices.Min(slices.Collect(maps.Values(whys))) < 100 || two < 200 || entered < 200 || homeless < 100 {
		t.Error("few ways:", whys, two, entered, homeless)
	}
}

// moved is 1, if a block holds a replaced call whose caller's frame had to be laid home.
func moved(p api.Program, b api.Block) int {
	for _, i := range b.Ins {
		if i.Op != api.RCallee {
			continue
		}
		s := i.Exit[0].Slots
		w := s[:len(s)-1-p.Funcs[i.N].Params]
		if !slices.Equal(w, upTo(0, len(w))) {
			return 1
		}
	}
	return 0
}

// calls are programs whose main calls small functions again and again, in all sorts of ways.
func calls() []string {
	return []string{
		// a loop
		"func main 0 2\nint 4\nstore 0\nagain:\nfunc sq\nload 0\ncall 1\nload 1\nadd\nstore 1\nload 0\nint 1\nsub\ndup\nstore 0\njnz again\nload 1\nret\nfunc sq 1 1\nload 0\nload 0\nmul\nret",
		// values that wait under the call, and a function with locals of its own, swap, print and read
		"func main 0 1\nagain:\nint 7\nread\nfunc f\nload 0\nint 3\ncall 2\nprint\nprint\npop\njump again\nfunc f 2 4\nload 0\nload 1\nswap\nstore 3\nload 2\nprint\nload 3\ntotext\ncat\nread\nprint\nnil\nret",
		// a function that traps in the end, what is thrown being taken by its caller
		"func main 0 2\nint 0\nstore 0\nagain:\nload 0\narray 1\nstore 1\nfrom:\nfunc f\nload 1\nload 0\ncall 2\nto:\npop\nload 0\nint 1\nadd\nstore 0\njump again\ncatch:\nprint\njump again\nhandler from to catch 0\nfunc f 2 2\nload 0\nload 1\nget\nret",
		// another function than the one that was seen, every other time, or one that is bound
		"func main 0 2\nint 0\nstore 0\nagain:\nload 0\nint 2\nrem\njz plain\nfunc f\nint 9\nbind 1\nstore 1\njump on\nplain:\nfunc g\nstore 1\non:\nload 1\nload 0\ncall 1\nprint\nload 0\nint 1\nadd\nstore 0\njump again\nfunc g 1 1\nload 0\nload 0\nadd\nret\nfunc f 2 2\nload 1\nload 0\nsub\nret",
		// a loop whose block behind the call leads back at once
		"func main 0 0\nagain:\nfunc f\ncall 0\njnz again\nnil\nret\nfunc f 0 0\nread\nret",
	}
}

// P20.4: stopped at every step, at every end of fuel and room, with a profile that is true and with one that is false.
func TestCallsAreKept(t *testing.T) {
	for _, text := range calls() {
		p := parsed(t, text)
		f, c := factsOf(t, p), lifted(t, p, 0)
		for k := range p.Funcs {
			var prof api.Profile
			for range p.Funcs {
				prof.Funcs = append(prof.Funcs, slices.Repeat([]api.Spot{{Callee: k + 1}}, api.MaxCode))
			}
			for _, x := range []api.Code{Run(p, f, c, prof), Run(p, f, pruned(carried(c)), prof)} {
				frame := api.Frame{Slots: make([]api.Value, p.Funcs[0].Locals)}
				for fuel := range 90 {
					for stop := -1; stop < 90; stop += 1 + fuel%7 {
						trial{p, api.Limits{Fuel: fuel, Budget: 80}, api.State{}, x, frame, (fuel + stop + 1) % 3, stop}.meets(t)
					}
				}
			}
		}
	}
}

// tiered runs a program in both tiers, on one fiber: register code where a block begins, a step of the baseline where that made none.
func tiered(c *base.Core, codes []api.Code, stop int) (api.Event, int) {
	f := &api.Fiber{Frames: []api.Frame{{Slots: make([]api.Value, c.World().Program.Funcs[0].Locals)}}}
	fast := 0
	for {
		last := len(f.Frames) - 1
		top := f.Frames[last]
		if slices.ContainsFunc(codes[top.Fn].Blocks, func(b api.Block) bool { return b.PC == top.PC }) {
			left := model.Go(c, codes[top.Fn], top, api.MaxFrames-len(f.Frames), stop)
			f.Frames = append(f.Frames[:last:last], left.Frames...)
			fast += left.Steps
		}
		if e := c.Step(f); e.Kind != api.EvStep {
			return e, fast
		}
	}
}

// P20.4: whole runs end as the baseline's do, the deepest too, in which no frame more has room.
func TestWholeRuns(t *testing.T) {
	texts := append(calls(),
		"func main 0 0\nfunc deep\nint 0\ncall 1\nret\nfunc deep 1 1\nfrom:\nfunc f\nload 0\ncall 1\nprint\nfunc deep\nload 0\nint 1\nadd\ncall 1\nto:\nret\nback:\nprint\nload 0\nret\nhandler from to back 0\nfunc f 1 1\nload 0\nint 3\nmul\nret")
	for _, text := range texts {
		p := parsed(t, text)
		f := factsOf(t, p)
		var prof api.Profile
		for range p.Funcs {
			prof.Funcs = append(prof.Funcs, slices.Repeat([]api.Spot{{Callee: len(p.Funcs)}}, api.MaxCode))
		}
		var plain, codes []api.Code
		for fn := range p.Funcs {
			plain = append(plain, api.Code{Fn: fn})
			codes = append(codes, Run(p, f, lifted(t, p, fn), prof))
		}
		for _, l := range []api.Limits{{Fuel: 5000, Budget: 5000}, {Fuel: 777, Budget: 5000}, {Fuel: 5000, Budget: 100}} {
			one, other := core(t, p, l, api.State{}), core(t, p, l, api.State{})
			e, _ := tiered(one, plain, -1)
			g, fast := tiered(other, codes, -1)
			if e != g || fast == 0 || !model.Alike(one, other) {
				t.Error(text, l, "ends with", e, "and with", g, "behind", fast, "fast steps of", other.Steps())
			}
		}
	}
}
