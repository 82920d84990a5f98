package guess

import (
	"math/rand"
	"slices"
	"testing"

	"portage/api"
	"portage/base"
	"portage/code"
	"portage/inline"
	"portage/lift"
	"portage/model"
	"portage/profile"
	"portage/sample"
)

// back is register code in which all bets are taken back.
func back(c api.Code) api.Code {
	c = sample.Copied(c)
	for k := range c.Blocks {
		var l []api.RIns
		var guard api.RIns
		for _, x := range c.Blocks[k].Ins {
			if x.Op == api.RGuard {
				guard = x
				continue
			}
			if x.Op == api.RPure && x.N != 0 {
				x.Op, x.N, x.Exit, x.Need = api.RPlain, 0, guard.Exit, guard.Need
			}
			l = append(l, x)
		}
		c.Blocks[k].Ins = l
	}
	return c
}

// unbet is register code without guards and without operations on one kind.
func unbet(c api.Code) api.Code {
	c = sample.Copied(c)
	for k := range c.Blocks {
		b := &c.Blocks[k]
		b.Ins = slices.DeleteFunc(b.Ins, func(x api.RIns) bool { return x.Op == api.RGuard || x.Op == api.RPure && x.N != 0 })
	}
	return c
}

// P21.3, P21.4 and P21.5: what Run answers is right, stands for as many steps, and c is found again in it; without a profile nothing is changed.
func TestRunIsRight(t *testing.T) {
	r := rand.New(rand.NewSource(213))
	made := 0
	for range 1000 {
		p := sample.Caller(r, 40)
		f, prof := factsOf(t, p), sample.Profile(r, p)
		for fn := range p.Funcs {
			c := lifted(t, p, fn)
			if r.Intn(2) == 0 {
				c = sample.Code(r, p, f, c)
			}
			d := Run(p, c, prof)
			if err := lift.Check(p, f, d); err != api.OK {
				t.Fatalf("%v of %+v", err, d)
			}
			for k := range c.Blocks {
				if lift.Steps(c.Blocks[k]) != lift.Steps(d.Blocks[k]) {
					t.Fatalf("other steps: %+v", d.Blocks[k])
				}
			}
			if !sample.Same(Run(p, c, api.Profile{}), c) || !sample.Same(Run(p, c, api.Profile{Funcs: make([][]api.Spot, 3)}), c) {
				t.Fatalf("a bet out of nothing: %+v", c)
			}
			if u := unbet(c); !sample.Same(back(Run(p, u, prof)), u) {
				t.Fatalf("not found again: %+v", u)
			}
			made += bets(c, d)
		}
	}
	if made < 1000 {
		t.Error("few bets:", made)
	}
}

// P21.3: Steps wrap, and are the same, whatever the Needs; code that is not right too.
func TestStepsOfAny(t *testing.T) {
	r := rand.New(rand.NewSource(214))
	for range 2000 {
		var l []api.RIns
		for range r.Intn(6) {
			x := sum()
			x.Need = sample.Edge(r)
			l = append(l, x)
		}
		c := api.Code{Blocks: []api.Block{{Ins: l}}}
		d := Run(api.Program{}, c, seen(0, 2, api.Spot{A: 8, B: 8}))
		if len(d.Blocks[0].Ins) != 3*len(l) || lift.Steps(d.Blocks[0]) != lift.Steps(c.Blocks[0]) {
			t.Fatalf("%+v", d)
		}
	}
}

// trial is register code that goes from a frame over one core, and something else over another that is alike.
type trial struct {
	p    api.Program
	l    api.Limits
	s    api.State
	code api.Code
	f    api.Frame
	room int
	stop int
}

// meets asks whether it comes to what the baseline comes to (P21.5), and tells how it was left.
func (k trial) meets(t *testing.T) api.Left {
	t.Helper()
	one, other := core(t, k.p, k.l, k.s), core(t, k.p, k.l, k.s)
	left := model.Go(one, k.code, k.f, k.room, k.stop)
	frames, wrong := model.Walk(other, k.f, k.stop, left.Steps)
	if wrong != "" || !model.SameFrames(frames, left.Frames) {
		t.Fatalf("%s: the baseline comes to %v, and the register code to %+v\n%+v", wrong, frames, left, k.code)
	}
	if !model.Alike(one, other) {
		t.Fatal("the register code's core holds", model.Held(one), one.Out(), "the baseline's", model.Held(other), other.Out())
	}
	return left
}

// unseen asks whether its bets, if none is lost, are not to be seen (P21.6): whether the code without them goes the same way.
func (k trial) unseen(t *testing.T, plain api.Code) api.Left {
	t.Helper()
	one, other := core(t, k.p, k.l, k.s), core(t, k.p, k.l, k.s)
	left := model.Go(one, k.code, k.f, k.room, k.stop)
	if left.Why == api.LeftGuard {
		return left
	}
	want := model.Go(other, plain, k.f, k.room, k.stop)
	if left.Why != want.Why || left.Steps != want.Steps || !model.SameFrames(left.Frames, want.Frames) || !model.Alike(one, other) {
		t.Fatalf("%+v, and without bets %+v\n%+v", left, want, k.code)
	}
	return left
}

// drawTrial is a trial of a code, from where one of its blocks begins.
func drawTrial(r *rand.Rand, p api.Program, facts api.Facts, c api.Code, b api.Block) trial {
	s := sample.State(r, p)
	l := api.Limits{Fuel: s.Steps + r.Intn(60), Budget: r.Intn(60)}
	if r.Intn(2) == 0 {
		l = api.Limits{Fuel: 600, Budget: 2000}
	}
	f := sample.Frame(r, p, facts, s, api.Place{Fn: c.Fn, PC: b.PC})
	return trial{p, l, s, c, f, []int{-1, 0, 1, 99, 99}[r.Intn(5)], r.Intn(60) - 30}
}

// betting is a profile that bets on ints, or on reals, wherever it can, and where the true kinds are others too.
func betting(p api.Program, bits uint16) api.Profile {
	var f api.Profile
	for _, x := range p.Funcs {
		f.Funcs = append(f.Funcs, slices.Repeat([]api.Spot{{A: bits, B: bits}}, len(x.Code)))
	}
	return f
}

// drawProfile is one that bets here and there, or everywhere, on one kind or on several.
func drawProfile(r *rand.Rand, p api.Program) api.Profile {
	switch r.Intn(3) {
	case 0:
		return betting(p, 4<<r.Intn(2))
	case 1:
		f := betting(p, 4)
		for _, l := range f.Funcs {
			for pc := range l {
				if r.Intn(5) == 0 {
					l[pc] = api.Spot{A: 8, B: 8}
				}
			}
		}
		return f
	}
	return sample.Profile(r, p)
}

// P21.5 and P21.6: register code behind guess, or behind inline and guess, and the baseline go one way, from every block, with every sort of room and stop.
func TestMeaningIsKept(t *testing.T) {
	r := rand.New(rand.NewSource(215))
	whys, two, fast := map[int]int{}, 0, 0
	for range 1500 {
		p := sample.Caller(r, 30)
		f := factsOf(t, p)
		before := lifted(t, p, r.Intn(3))
		if r.Intn(2) == 0 {
			before = inline.Run(p, f, before, sample.Profile(r, p))
		}
		x := Run(p, before, drawProfile(r, p))
		for _, b := range x.Blocks {
			k := drawTrial(r, p, f, x, b)
			left := k.meets(t)
			k.unseen(t, before)
			whys[left.Why]++
			two += len(left.Frames) - 1
			if bets(before, x) > 0 && left.Steps > 20 {
				fast++
			}
		}
	}
	for why := api.LeftGuard; why <= api.LeftCode; why++ {
		if whys[why] < 100 {
			t.Error("few ways:", whys)
		}
	}
	if two < 100 || fast < 50 {
		t.Error("few ways:", two, fast)
	}
}

// P21.6: any right register code, whatever it means.
func TestBetsAreNotSeen(t *testing.T) {
	r := rand.New(rand.NewSource(216))
	whys, held := map[int]int{}, 0
	for range 2500 {
		p := sample.Caller(r, 25)
		f := factsOf(t, p)
		before := sample.Code(r, p, f, lifted(t, p, r.Intn(3)))
		x := Run(p, before, drawProfile(r, p))
		for _, b := range x.Blocks {
			left := drawTrial(r, p, f, x, b).unseen(t, before)
			whys[left.Why]++
			if left.Why != api.LeftGuard && bets(before, x) > 0 && left.Steps > 5 {
				held++
			}
		}
	}
	for why := api.LeftGuard; why <= api.LeftCode; why++ {
		if whys[why] < 100 {
			t.Error("few ways:", whys)
		}
	}
	if held < 100 {
		t.Error("few bets that hold:", held)
	}
}

// loops are programs whose main reckons again and again.
func loops() []string {
	return []string{
		// whole numbers
		"func main 0 2\nint 9\nstore 0\nint 4\nstore 1\nagain:\nload 0\nload 1\nadd\nneg\nnot\nstore 1\nload 0\nint 3\nand\nload 1\nor\nload 0\nxor\nint 5\nbic\nstore 1\nload 0\nint 1\nsub\ndup\nstore 0\nint 0\nle\njz again\nload 1\nret",
		// reals
		"const real 2.5\nconst real 0.25\nfunc main 0 2\nconst 0\nstore 0\nconst 1\nstore 1\nagain:\nload 0\nload 1\nmul\nload 0\nadd\nsqrt\nsingle\nneg\nneg\nstore 1\nload 0\nload 1\nsub\nload 0\ndiv\nfloor\nload 1\nlt\nprint\njump again",
		// whole numbers that become reals in the third round
		"const real 0.5\nfunc main 0 2\nint 0\nstore 0\nint 0\nstore 1\nagain:\nload 0\nload 0\nmul\nprint\nload 1\nint 1\nadd\nstore 1\nload 1\nint 3\nlt\njz turn\nload 0\nint 2\nadd\nstore 0\njump again\nturn:\nload 0\nconst 0\nadd\nstore 0\njump again",
		// one that traps in the end, what is thrown being taken
		"func main 0 1\nint 3\nstore 0\nagain:\nload 0\nint 1\nsub\ndup\nstore 0\njz text\njump again\ntext:\nread\nstore 0\njump again\ncatch:\nprint\nint 2\nstore 0\njump again\nhandler again text catch 0",
	}
}

// P21.5: stopped at every step and at every end of fuel, with bets on either kind.
func TestLoopsAreKept(t *testing.T) {
	for _, text := range loops() {
		p := parsed(t, text)
		c := lifted(t, p, 0)
		for _, bits := range []uint16{4, 8} {
			x := Run(p, c, betting(p, bits))
			f := api.Frame{Slots: make([]api.Value, p.Funcs[0].Locals)}
			for fuel := range 110 {
				for stop := -1; stop < 110; stop += 1 + fuel%7 {
					k := trial{p, api.Limits{Fuel: fuel, Budget: 80}, api.State{}, x, f, 99, stop}
					k.meets(t)
					k.unseen(t, c)
				}
			}
		}
	}
}

// run runs main in both tiers: register code where a block begins, if there is any, a step of the baseline where that made none. Each step of the baseline is noted in a book. It tells how often a guard was left.
func run(c *base.Core, x api.Code, book *profile.Book) (api.Event, int) {
	f := &api.Fiber{Frames: []api.Frame{{Slots: make([]api.Value, c.World().Program.Funcs[0].Locals)}}}
	guards := 0
	for {
		top := f.Frames[0]
		if slices.ContainsFunc(x.Blocks, func(b api.Block) bool { return b.PC == top.PC }) {
			left := model.Go(c, x, top, 99, -1)
			f.Frames = left.Frames
			if left.Why == api.LeftGuard {
				guards++
			}
			top = left.Frames[0]
		}
		if n, _, ok := code.Effect(c.World().Program.Funcs[0].Code[top.PC]); ok {
			book.Note(0, top.PC, top.Slots[len(top.Slots)-n:], 0)
		}
		if e := c.Step(f); e.Kind != api.EvStep {
			return e, guards
		}
	}
}

// P21.5: whole runs end as the baseline's do, and with a profile of the same run no bet is lost.
func TestWholeRuns(t *testing.T) {
	for k, text := range loops() {
		p := parsed(t, text)
		c := lifted(t, p, 0)
		for _, l := range []api.Limits{{Fuel: 2000, Budget: 5000}, {Fuel: 333, Budget: 5000}, {Fuel: 2000, Budget: 40}} {
			plain, book := core(t, p, l, api.State{}), profile.New(p, api.Profile{})
			want, _ := run(plain, api.Code{}, book)
			for j, prof := range []api.Profile{book.Profile(), betting(p, 4), betting(p, 8)} {
				x := Run(p, c, prof)
				fast := core(t, p, l, api.State{})
				e, guards := run(fast, x, profile.New(p, api.Profile{}))
				if e != want || !model.Alike(plain, fast) {
					t.Error(k, j, l, "ends with", e, "and not with", want)
				}
				if j == 0 && guards > 0 || j == 0 && k < 2 && bets(c, x) < 5 || j == 2-k && k < 2 && guards == 0 {
					t.Error(k, j, l, "lost", guards, "of", bets(c, x), "bets")
				}
			}
		}
	}
}
