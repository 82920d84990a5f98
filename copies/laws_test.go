package copies

import (
	"math/rand"
	"slices"
	"testing"

	"portage/api"
	"portage/base"
	"portage/guess"
	"portage/inline"
	"portage/lift"
	"portage/model"
	"portage/sample"
)

// asksForNone tells whether no operand behind the first instruction of a block is a register that is known as something (P22.5).
func asksForNone(c api.Code) bool {
	for _, b := range c.Blocks {
		for j, x := range b.Ins {
			if slices.ContainsFunc(operands(x), func(o api.Opnd) bool {
				_, ok := knownAs(b.Ins[:j], o.N)
				return ok && o.Kind == api.AtReg
			}) {
				return false
			}
		}
	}
	return true
}

// bare is an instruction without operands, but for how many there are.
func bare(x api.RIns) api.RIns {
	x.Args = make([]api.Opnd, len(x.Args))
	x.Exit = slices.Clone(x.Exit)
	for k := range x.Exit {
		x.Exit[k].Slots = make([]api.Opnd, len(x.Exit[k].Slots))
	}
	return x
}

// keepsAllElse tells whether the blocks are as many, and the instructions of each that are no RMoves are the same but for operands, and no RMove is there that was not (P22.4).
func keepsAllElse(c, d api.Code) bool {
	return len(c.Blocks) == len(d.Blocks) && slices.EqualFunc(c.Blocks, d.Blocks, func(a, b api.Block) bool {
		same := slices.EqualFunc(others(a), others(b), func(x, y api.RIns) bool { return sample.SameIns(bare(x), bare(y)) })
		return same && len(a.Ins) >= len(b.Ins) && lift.Steps(a) == lift.Steps(b)
	})
}

// obeys asks for all that is promised of any code.
func obeys(t *testing.T, c api.Code) api.Code {
	t.Helper()
	d := Run(c)
	switch {
	case !sample.Same(d, meant(c)):
		t.Fatalf("not by the chapter's words: %+v became %+v", c, d)
	case !sample.Same(Run(d), d):
		t.Fatalf("once is not enough: %+v became %+v", c, d)
	case !keepsAllElse(c, d):
		t.Fatalf("something else was turned: %+v became %+v", c, d)
	case !asksForNone(d):
		t.Fatalf("a copy is asked for: %+v became %+v", c, d)
	}
	for k := range c.Blocks {
		if !sameWay(c.Blocks[k], d.Blocks[k], c.Regs) {
			t.Fatalf("something else is asked for: %+v became %+v", c.Blocks[k], d.Blocks[k])
		}
	}
	return d
}

// P22.1 and P22.3 to P22.5: any code of few registers.
func TestCrowds(t *testing.T) {
	r := rand.New(rand.NewSource(221))
	turned, out := 0, 0
	for range 20000 {
		c := crowd(r)
		n, m := turns(c, obeys(t, c))
		turned, out = turned+n, out+m
	}
	if turned < 10000 || out < 10000 {
		t.Error("little was turned:", turned, out)
	}
}

// passed is register code of a function behind some passes, in some order.
func passed(t testing.TB, r *rand.Rand, p api.Program, fn int) api.Code {
	c, prof := lifted(t, p, fn), sample.Profile(r, p)
	for range r.Intn(4) {
		switch r.Intn(3) {
		case 0:
			c = inline.Run(p, factsOf(t, p), c, prof)
		case 1:
			c = guess.Run(p, c, prof)
		default:
			c = Run(c)
		}
	}
	return c
}

// P22.1 to P22.5: right register code stays right; that which is not is turned by the same words.
func TestRunIsRight(t *testing.T) {
	r := rand.New(rand.NewSource(222))
	turned, out := 0, 0
	for range 1000 {
		p := sample.Caller(r, 30)
		f := factsOf(t, p)
		c := passed(t, r, p, r.Intn(len(p.Funcs)))
		if r.Intn(2) == 0 {
			c = sample.Code(r, p, f, c)
		}
		d := obeys(t, c)
		if err := lift.Check(p, f, d); err != api.OK {
			t.Fatalf("%v of %+v", err, d)
		}
		n, m := turns(c, d)
		turned, out = turned+n, out+m
		for range 3 {
			sample.Spoil(r, &c)
			obeys(t, c)
		}
	}
	if turned < 3000 || out < 30 {
		t.Error("little was turned:", turned, out)
	}
}

// trial is register code that goes from a frame over one core, and something else over another that is alike.
type trial struct {
	p    api.Program
	l    api.Limits
	s    api.State
	code api.Code
	f    api.Frame
	room int
	stop int
}

// drawTrial is one from the beginning of a block.
func drawTrial(r *rand.Rand, p api.Program, f api.Facts, c api.Code, b api.Block) trial {
	s := sample.State(r, p)
	k := trial{p: p, s: s, code: c, f: sample.Frame(r, p, f, s, api.Place{Fn: c.Fn, PC: b.PC}), room: 99, stop: -1}
	k.l = api.Limits{Fuel: s.Steps + []int{r.Intn(12), 60, 300}[r.Intn(3)], Budget: s.Spent + []int{r.Intn(12), 300}[r.Intn(2)]}
	if r.Intn(3) == 0 {
		k.stop = s.Steps + r.Intn(20)
	}
	if r.Intn(8) == 0 {
		k.room = r.Intn(2)
	}
	return k
}

// same asks whether it goes as other register code does (P22.2), and tells how it was left.
func (k trial) same(t *testing.T, as api.Code) api.Left {
	t.Helper()
	one, other := core(t, k.p, k.l, k.s), core(t, k.p, k.l, k.s)
	left, want := model.Go(one, k.code, k.f, k.room, k.stop), model.Go(other, as, k.f, k.room, k.stop)
	if left.Why != want.Why || left.Steps != want.Steps || !model.SameFrames(left.Frames, want.Frames) {
		t.Fatalf("it was %+v, and is %+v\n%+v", want, left, k.code)
	}
	if !model.Alike(one, other) {
		t.Fatal("the core holds", model.Held(one), one.Out(), "and held", model.Held(other), other.Out())
	}
	return left
}

// meets asks whether it comes to what the baseline comes to (W7).
func (k trial) meets(t *testing.T) api.Left {
	t.Helper()
	one, other := core(t, k.p, k.l, k.s), core(t, k.p, k.l, k.s)
	left := model.Go(one, k.code, k.f, k.room, k.stop)
	frames, wrong := model.Walk(other, k.f, k.stop, left.Steps)
	if wrong != "" || !model.SameFrames(frames, left.Frames) {
		t.Fatalf("%s: the baseline comes to %v, and the register code to %+v\n%+v", wrong, frames, left, k.code)
	}
	if !model.Alike(one, other) {
		t.Fatal("the register code's core holds", model.Held(one), one.Out(), "the baseline's", model.Held(other), other.Out())
	}
	return left
}

// tally is how often code was left for each reason, and how often behind some steps.
type tally struct {
	whys  [api.LeftCode + 1]int
	steps int
}

func (n *tally) add(left api.Left) {
	n.whys[left.Why]++
	if left.Steps > 5 {
		n.steps++
	}
}

func (n *tally) enough(t *testing.T) {
	t.Helper()
	if slices.Min(n.whys[api.LeftGuard:]) < 100 || n.steps < 500 {
		t.Error("few ways:", n)
	}
}

// P22.2: any right register code, whatever it means.
func TestMeaningOfAny(t *testing.T) {
	r := rand.New(rand.NewSource(223))
	var n tally
	for range 2500 {
		p := sample.Caller(r, 25)
		f := factsOf(t, p)
		c := sample.Code(r, p, f, passed(t, r, p, r.Intn(3)))
		d := Run(c)
		for _, b := range d.Blocks {
			n.add(drawTrial(r, p, f, d, b).same(t, c))
		}
	}
	n.enough(t)
}

// P22.2 and W7: behind any passes in any order, and with others behind it, the code goes as the baseline does.
func TestMeaningOfPasses(t *testing.T) {
	r := rand.New(rand.NewSource(224))
	var n tally
	two := 0
	for range 1500 {
		p := sample.Caller(r, 30)
		f, prof := factsOf(t, p), sample.Profile(r, p)
		c := passed(t, r, p, r.Intn(3))
		d := Run(c)
		behind := guess.Run(p, inline.Run(p, f, d, prof), prof)
		for _, b := range d.Blocks {
			k := drawTrial(r, p, f, d, b)
			n.add(k.same(t, c))
			k.meets(t)
			k.code = behind
			left := k.meets(t)
			two += len(left.Frames) - 1
			k.code = Run(behind)
			k.same(t, behind)
		}
	}
	n.enough(t)
	if two < 100 {
		t.Error("few ways into functions:", two)
	}
}

// loops are programs whose main carries values about again and again.
func loops() []string {
	return []string{
		// three locals turned round, what is printed being one of them
		"func main 0 4\nint 1\nstore 0\nint 2\nstore 1\nint 3\nstore 2\nagain:\nload 0\nstore 3\nload 1\nstore 0\nload 2\nstore 1\nload 3\nstore 2\nload 0\nprint\njump again",
		// the same on the stack
		"func main 0 2\nint 5\nstore 0\nint 7\nstore 1\nagain:\nload 0\nload 1\nswap\nstore 1\nstore 0\nload 0\ndup\nadd\nload 1\nsub\nstore 0\nload 1\nprint\njump again",
		// a value and its copy, one of which is written
		"func main 0 3\nint 9\nstore 0\nagain:\nload 0\nstore 1\nload 1\nstore 2\nload 0\nint 1\nsub\nstore 0\nload 1\nload 0\nsub\nload 2\nadd\nprint\nload 0\nload 0\nstore 0\nint 0\nle\njz again\nload 2\nret",
		// what is moved onto itself, and one that traps in the end, what is thrown being taken
		"func main 0 2\nint 3\nstore 0\nagain:\nload 0\nstore 0\nload 0\ndup\nstore 1\nint 1\nsub\nstore 0\nload 0\njz text\njump again\ntext:\nread\nstore 0\njump again\ncatch:\nprint\nload 1\nprint\nint 2\nstore 0\njump again\nhandler again text catch 0",
	}
}

// P22.2: stopped at every step and at every end of fuel, with all of the budget and with little.
func TestLoopsAreKept(t *testing.T) {
	for k, text := range loops() {
		p := parsed(t, text)
		c := lifted(t, p, 0)
		x := obeys(t, c)
		if turned, _ := turns(c, x); turned < 4 {
			t.Error(k, "little was turned:", turned)
		}
		f := api.Frame{Slots: make([]api.Value, p.Funcs[0].Locals)}
		for fuel := range 110 {
			for stop := -1; stop < 110; stop += 1 + fuel%7 {
				k := trial{p, api.Limits{Fuel: fuel, Budget: 20}, api.State{}, x, f, 99, stop}
				k.meets(t)
				k.same(t, c)
			}
		}
	}
}

// run runs main in both tiers: register code where a block begins, if there is any, a step of the baseline where that made none.
func run(c *base.Core, x api.Code) api.Event {
	f := &api.Fiber{Frames: []api.Frame{{Slots: make([]api.Value, c.World().Program.Funcs[0].Locals)}}}
	for {
		top := f.Frames[0]
		if slices.ContainsFunc(x.Blocks, func(b api.Block) bool { return b.PC == top.PC }) {
			f.Frames = model.Go(c, x, top, 99, -1).Frames
		}
		if e := c.Step(f); e.Kind != api.EvStep {
			return e
		}
	}
}

// P22.2: whole runs end as the baseline's do.
func TestWholeRuns(t *testing.T) {
	for k, text := range loops() {
		p := parsed(t, text)
		c := lifted(t, p, 0)
		for _, l := range []api.Limits{{Fuel: 2000, Budget: 5000}, {Fuel: 333, Budget: 5000}, {Fuel: 2000, Budget: 40}} {
			plain, fast := core(t, p, l, api.State{}), core(t, p, l, api.State{})
			want := run(plain, api.Code{})
			if e := run(fast, Run(c)); e != want || !model.Alike(plain, fast) {
				t.Error(k, l, "ends with", e, "and not with", want)
			}
		}
	}
}

// P22.5, for lifted code: what a local holds is asked for there, and what is known as itself, also where it was swapped.
func TestLifted(t *testing.T) {
	p := parsed(t, "func main 0 2\nload 0\nload 1\nadd\ndup\nprint\nint 5\nswap\nlt\nload 0\nstore 1\nload 1\nprint\nret")
	d := obeys(t, lifted(t, p, 0))
	var got [][]api.Opnd
	for _, x := range d.Blocks[0].Ins {
		if x.Op == api.RPlain {
			got = append(got, x.Args)
		}
	}
	want := [][]api.Opnd{regs(0, 1), regs(2), opnds(at(api.AtInt, 5), reg(3)), regs(0)}
	if !slices.EqualFunc(got, want, slices.Equal[[]api.Opnd]) {
		t.Error(got)
	}
}
