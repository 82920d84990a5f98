package fold

import (
	"math/rand"
	"slices"
	"strconv"
	"strings"
	"testing"

	"portage/api"
	"portage/base"
	"portage/copies"
	"portage/guess"
	"portage/inline"
	"portage/lift"
	"portage/model"
	"portage/sample"
)

// paysAsMuch tells whether the Needs of a block are as many together as they were, where that is promised, and it is no longer (P23.5).
func paysAsMuch(before, after api.Block) bool {
	if len(before.Ins) == 0 || len(after.Ins) == 0 {
		return len(before.Ins) == len(after.Ins)
	}
	was, is := before.Ins[len(before.Ins)-1].Op, after.Ins[len(after.Ins)-1].Op
	if was == is && is != api.RLeave || was == api.RBranch && is == api.RJump {
		return lift.Steps(before) == lift.Steps(after) && len(after.Ins) <= len(before.Ins)
	}
	return is == api.RLeave && len(after.Ins) <= len(before.Ins)
}

// obeys asks for all that is promised of right register code of a verified program, but its meaning.
func obeys(t *testing.T, p api.Program, c api.Code) api.Code {
	t.Helper()
	f := factsOf(t, p)
	if err := lift.Check(p, f, c); err != api.OK {
		t.Fatalf("not handed in right: %v of %+v", err, c)
	}
	d := Run(p, c)
	switch {
	case !sample.Same(d, meant(p, c)):
		t.Fatalf("not by the chapter's words: %+v became %+v", c, d)
	case !sample.Same(Run(p, d), d):
		t.Fatalf("once is not enough: %+v became %+v", c, d)
	case !slices.EqualFunc(c.Blocks, d.Blocks, paysAsMuch):
		t.Fatalf("other Needs, or longer: %+v became %+v", c, d)
	case slices.ContainsFunc(c.Blocks, func(b api.Block) bool { return lift.Steps(b) > 2*api.MaxCode }):
	case lift.Check(p, f, d) != api.OK:
		t.Fatalf("not right: %+v became %+v", c, d)
	}
	return d
}

// drawProfile is a profile of a program that mostly bets on whole numbers.
func drawProfile(r *rand.Rand, p api.Program) api.Profile {
	f := sample.Profile(r, p)
	for _, l := range f.Funcs {
		for pc := range l {
			if r.Intn(3) > 0 {
				l[pc].A, l[pc].B = 1<<api.Int, 1<<api.Int
			}
		}
	}
	return f
}

// passed is register code of a function behind some passes, in some order.
func passed(t testing.TB, r *rand.Rand, p api.Program, fn int) api.Code {
	c, prof := lifted(t, p, fn), drawProfile(r, p)
	for range r.Intn(6) {
		switch r.Intn(7) {
		case 0, 1:
			c = inline.Run(p, factsOf(t, p), c, prof)
		case 2, 3:
			c = guess.Run(p, c, prof)
		case 4:
			c = Run(p, c)
		default:
			c = copies.Run(c)
		}
	}
	return c
}

// P23.1, P23.2, P23.4 and P23.5: any right register code, whatever it may mean.
func TestRunIsRight(t *testing.T) {
	r := rand.New(rand.NewSource(231))
	var n turns
	for range 1500 {
		p := sample.Caller(r, 30)
		f := factsOf(t, p)
		c := passed(t, r, p, r.Intn(len(p.Funcs)))
		if r.Intn(3) > 0 {
			c = sample.Code(r, p, f, c)
		}
		n.add(c, obeys(t, p, c))
		for range 3 {
			s := sample.Copied(c)
			sample.Spoil(r, &s)
			if lift.Check(p, f, s) == api.OK {
				n.add(s, obeys(t, p, s))
			} else {
				Run(p, s)
			}
		}
	}
	n.enough(t, 400)
}

// crowded is one of the instructions of a crowd: of few registers, and much that is known.
func crowded(r *rand.Rand) api.RIns {
	few := append(regs(1, 2, 3, 1, 2, 3), null(), truth(0), truth(1), whole(0), whole(7), bits(half), at(api.AtConst, 0), at(api.AtConst, 1), at(api.AtFunc, 1), at(api.AtFunc, 2))
	some := func(n int) []api.Opnd {
		var l []api.Opnd
		for range n {
			l = append(l, few[r.Intn(len(few))])
		}
		return l
	}
	pick := func(l ...int) int { return l[r.Intn(len(l))] }
	dst, need := 1+r.Intn(3), r.Intn(4)
	switch r.Intn(12) {
	case 0:
		return guard(pick(api.Int, api.Int, api.Int, r.Intn(10)), need, reg(dst))
	case 1:
		return guard(pick(api.Int, api.Int, api.Real, r.Intn(10)), need, some(1)[0])
	case 2:
		return callee(1+r.Intn(2), need, some(1)[0])
	case 3:
		return point(need)
	case 4:
		return pure(pick(api.OpEq, api.OpNe), 0, dst, some(2)...)
	case 5:
		return pure(pick(api.OpAdd, api.OpSub, api.OpLt, api.OpLe), pick(api.Int, api.Real), dst, some(2)...)
	case 6:
		return plain(ins(pick(api.OpArray, api.OpRead, api.OpRecord)), dst, need)
	case 7:
		return plain(ins(pick(api.OpToInt, api.OpLen, api.OpNeg, api.OpTest, api.OpToText)), dst, need, some(1)...)
	case 8, 9:
		return plain(ins(pick(api.OpAdd, api.OpMul, api.OpDiv, api.OpEq, api.OpLt, api.OpShl)), dst, need, some(2)...)
	}
	return move(dst, some(1)[0])
}

// cuts tells whether code goes no further than to an instruction behind a list.
func cuts(p api.Program, list []api.RIns, x api.RIns) bool {
	what, _ := fate(p, list, x)
	return what == left
}

// The same of crowds of instructions, in which much is known of each register, for a while.
func TestCrowds(t *testing.T) {
	r := rand.New(rand.NewSource(232))
	p := given(t)
	var n turns
	for range 20000 {
		var l []api.RIns
		for range r.Intn(16) {
			x := crowded(r)
			// Mostly such as the code isn't left by, so that it goes far.
			for cuts(p, l, x) && r.Intn(8) > 0 {
				x = crowded(r)
			}
			l = append(l, x)
		}
		last := []api.RIns{jump(), leave(), branch(api.OpJz, reg(1)), branch(api.OpJnz, reg(2)), branch(api.OpJz, null())}[r.Intn(5)]
		c := written(append(l, last)...)
		n.add(c, obeys(t, p, c))
	}
	n.enough(t, 2000)
}

// trial is register code that goes from a frame.
type trial struct {
	p    api.Program
	l    api.Limits
	s    api.State
	code api.Code
	f    api.Frame
	room int
	stop int
}

// drawTrial is one from the beginning of a block.
func drawTrial(r *rand.Rand, p api.Program, f api.Facts, c api.Code, b api.Block) trial {
	s := sample.State(r, p)
	k := trial{p: p, s: s, code: c, f: sample.Frame(r, p, f, s, api.Place{Fn: c.Fn, PC: b.PC}), room: 99, stop: -1}
	k.l = api.Limits{Fuel: s.Steps + []int{r.Intn(12), 60, 300}[r.Intn(3)], Budget: s.Spent + []int{r.Intn(12), 300}[r.Intn(2)]}
	if r.Intn(3) == 0 {
		k.stop = s.Steps + r.Intn(20)
	}
	if r.Intn(8) == 0 {
		k.room = r.Intn(2)
	}
	return k
}

// meets asks whether it comes to what the baseline comes to, and tells how it was left.
func (k trial) meets(t *testing.T) api.Left {
	t.Helper()
	one, other := core(t, k.p, k.l, k.s), core(t, k.p, k.l, k.s)
	left := model.Go(one, k.code, k.f, k.room, k.stop)
	frames, wrong := model.Walk(other, k.f, k.stop, left.Steps)
	if wrong != "" || !model.SameFrames(frames, left.Frames) {
		t.Fatalf("%s: the baseline comes to %v, and the register code to %+v\n%+v", wrong, frames, left, k.code)
	}
	if !model.Alike(one, other) {
		t.Fatal("the register code's core holds", model.Held(one), one.Out(), "the baseline's", model.Held(other), other.Out())
	}
	return left
}

// tally is how often code was left for each reason, and how often behind some steps.
type tally struct {
	whys  [api.LeftCode + 1]int
	steps int
}

func (n *tally) add(left api.Left) {
	n.whys[left.Why]++
	if left.Steps > 5 {
		n.steps++
	}
}

func (n *tally) enough(t *testing.T) {
	t.Helper()
	if slices.Min(n.whys[api.LeftGuard:]) < 100 || n.steps < 500 {
		t.Error("few ways:", n)
	}
}

// P23.3 and W7: behind any passes in any order, and with others behind it, the code goes as the baseline does.
func TestMeaningOfPasses(t *testing.T) {
	r := rand.New(rand.NewSource(233))
	var n tally
	var turned turns
	two := 0
	for range 3000 {
		p := sample.Caller(r, 30)
		f, prof := factsOf(t, p), drawProfile(r, p)
		c := passed(t, r, p, r.Intn(3))
		d := obeys(t, p, c)
		turned.add(c, d)
		behind := Run(p, copies.Run(guess.Run(p, inline.Run(p, f, d, prof), prof)))
		for _, b := range d.Blocks {
			k := drawTrial(r, p, f, d, b)
			n.add(k.meets(t))
			k.code = behind
			left := k.meets(t)
			two += len(left.Frames) - 1
		}
	}
	n.enough(t)
	if turned.enough(t, 60); two < 100 {
		t.Error("few ways into functions:", two)
	}
}

// teller tells the text of a program that reckons, mostly with numbers that it knows.
type teller struct {
	*rand.Rand
	strings.Builder
	labels int
}

func (w *teller) line(words ...string) { w.WriteString(strings.Join(words, " ") + "\n") }

// pick is one of some words.
func (w *teller) pick(words ...string) string { return words[w.Intn(len(words))] }

// number tells what lays one value down.
func (w *teller) number(depth int) {
	switch k := w.Intn(6); {
	case k == 0:
		w.line("load", w.pick("0", "1", "2"))
	case k == 1:
		w.line(w.pick("const 0", "const 1", "nil", "true", "false", "func main"))
	case k == 2 && depth > 0:
		w.number(depth - 1)
		w.line(w.pick("neg", "not", "test", "flip", "toint", "toreal", "floor", "ext 8"))
	case k < 5 && depth > 0:
		w.number(depth - 1)
		w.number(depth - 1)
		w.line(w.pick("add", "sub", "mul", "div", "lt", "le", "eq", "ne", "and", "shl", "rem"))
	default:
		w.line("int", w.pick("-1", "0", "1", "2", "7"))
	}
}

// statement tells what leaves the stack as it was.
func (w *teller) statement(depth int) {
	w.number(2)
	switch k := w.Intn(8); {
	case k == 0:
		w.line("print")
	case k < 3 && depth > 0:
		label := "l" + strconv.Itoa(w.labels)
		w.labels++
		w.line(w.pick("jz", "jnz"), label)
		for range 1 + w.Intn(3) {
			w.statement(depth - 1)
		}
		w.line(label + ":")
	default:
		w.line("store", w.pick("0", "1", "2"))
	}
}

// told is a program that goes round and round.
func told(t testing.TB, r *rand.Rand) api.Program {
	w := teller{Rand: r}
	w.line("const real 0.5\nconst text \"7\"\nfunc main 0 3\nagain:")
	for range 2 + r.Intn(6) {
		w.statement(2)
	}
	w.line("jump again")
	return parsed(t, w.String())
}

// P23.3: the same of programs that reckon with what they know.
func TestMeaningOfNumbers(t *testing.T) {
	r := rand.New(rand.NewSource(234))
	var n tally
	var turned turns
	for range 4000 {
		p := told(t, r)
		f := factsOf(t, p)
		c := passed(t, r, p, 0)
		if r.Intn(2) == 0 {
			c = copies.Run(guess.Run(p, c, drawProfile(r, p)))
		}
		d := obeys(t, p, c)
		turned.add(c, d)
		behind := Run(p, copies.Run(d))
		for _, b := range d.Blocks {
			k := drawTrial(r, p, f, d, b)
			for j := range k.f.Slots {
				if r.Intn(3) > 0 {
					k.f.Slots[j] = api.Value{Kind: api.Int, N: int64(r.Intn(5))}
				}
			}
			n.add(k.meets(t))
			k.code = behind
			k.meets(t)
		}
	}
	n.enough(t)
	turned.enough(t, 500)
}

// loops are programs whose main knows much of what it works with, with profiles that are true or false.
func loops() []string {
	return []string{
		// sums of known values, and branches of which the way is known
		"func main 0 2\nint 3\nstore 0\nagain:\nint 2\nint 5\nmul\nstore 1\nload 1\nint 10\neq\njz wrong\nload 0\nint 1\nsub\nstore 0\nload 1\nprint\nload 0\nint 0\nle\njz again\nload 1\nret\nwrong:\nnil\nthrow",
		// an int becomes a real in the midst; what traps is taken
		"const real 0.5\nfunc main 0 2\nint 1\nstore 0\nagain:\nload 0\nconst 0\nadd\nstore 0\nload 0\nload 0\nmul\nprint\nload 0\nint 4\nlt\njnz again\nfrom:\nint 7\nint 0\ndiv\nto:\npop\nnil\nret\ntaken:\nprint\nint 2\nstore 0\nload 0\nint 1\nadd\nprint\njump again\nhandler from to taken 0",
		// what is known of an array's length, of a text and of nil
		"const text \"k\"\nfunc main 0 2\narray 0\nstore 0\nagain:\nload 0\nint 1\npush\nload 0\nlen\njz none\nconst 0\njz none\nnil\njnz none\nload 0\nlen\nstore 1\nload 1\nload 1\nadd\nprint\nload 1\nint 5\nlt\njnz again\nload 1\nret\nnone:\nfalse\nthrow",
		// a call of a small function, of a function that is known and of another one
		"func main 0 2\nint 4\nstore 0\nagain:\nfunc f\nint 3\ncall 1\nstore 1\nload 0\nint 1\nsub\nstore 0\nload 0\njz last\nload 0\nint 2\neq\njz again\nfunc g\nload 0\ncall 1\nprint\njump again\nlast:\nload 1\nret\nfunc f 1 1\nload 0\nload 0\nmul\nret\nfunc g 1 1\nload 0\ntotext\nret",
	}
}

// profiles are some of a program: none, a true one of whole numbers, a false one of reals.
func profiles(p api.Program) []api.Profile {
	l := make([]api.Profile, 3)
	for k, kind := range []uint16{1 << api.Int, 1 << api.Real} {
		for _, f := range p.Funcs {
			spots := make([]api.Spot, len(f.Code))
			for pc := range spots {
				spots[pc] = api.Spot{Count: 5, A: kind, B: kind, Callee: 2}
			}
			l[k+1].Funcs = append(l[k+1].Funcs, spots)
		}
	}
	return l
}

// compiled is main behind the passes, with fold at several places.
func compiled(t *testing.T, p api.Program, prof api.Profile) api.Code {
	c := inline.Run(p, factsOf(t, p), obeys(t, p, lifted(t, p, 0)), prof)
	c = obeys(t, p, copies.Run(guess.Run(p, c, prof)))
	return obeys(t, p, copies.Run(c))
}

// P23.3: stopped at every step and at every end of fuel, with much room and with little.
func TestLoopsAreKept(t *testing.T) {
	for k, text := range loops() {
		p := parsed(t, text)
		for n, prof := range profiles(p) {
			x := compiled(t, p, prof)
			f := api.Frame{Slots: make([]api.Value, p.Funcs[0].Locals)}
			if most := (trial{p, api.Limits{Fuel: 200, Budget: 90}, api.State{}, x, f, 99, -1}).meets(t); k < 3 && n == 0 && most.Steps < 20 {
				t.Error(k, "goes", most)
			}
			for fuel := range 110 {
				for stop := -1; stop < 110; stop += 1 + fuel%7 {
					trial{p, api.Limits{Fuel: fuel, Budget: 20}, api.State{}, x, f, 99 * (fuel % 3), stop}.meets(t)
				}
			}
		}
	}
}

// run runs main in both tiers: register code where a block begins, if there is any, a step of the baseline where that made none.
func run(c *base.Core, x api.Code) api.Event {
	f := &api.Fiber{Frames: []api.Frame{{Slots: make([]api.Value, c.World().Program.Funcs[0].Locals)}}}
	for {
		top := f.Frames[len(f.Frames)-1]
		if len(f.Frames) == 1 && slices.ContainsFunc(x.Blocks, func(b api.Block) bool { return b.PC == top.PC }) {
			f.Frames = model.Go(c, x, top, 99, -1).Frames
		}
		if e := c.Step(f); e.Kind != api.EvStep {
			return e
		}
	}
}

// P23.3: whole runs end as the baseline's do.
func TestWholeRuns(t *testing.T) {
	for k, text := range loops() {
		p := parsed(t, text)
		for _, prof := range profiles(p) {
			x := compiled(t, p, prof)
			for _, l := range []api.Limits{{Fuel: 2000, Budget: 5000}, {Fuel: 333, Budget: 5000}, {Fuel: 2000, Budget: 40}} {
				plain, fast := core(t, p, l, api.State{}), core(t, p, l, api.State{})
				want := run(plain, api.Code{})
				if e := run(fast, x); e != want || !model.Alike(plain, fast) {
					t.Error(k, l, "ends with", e, "and not with", want)
				}
			}
		}
	}
}

// What a program knows of itself is worked out: of a block that only reckons with known values there is left what goes on.
func TestLifted(t *testing.T) {
	p := parsed(t, "func main 0 1\nint 2\nint 5\nmul\nstore 0\nload 0\nint 10\neq\njz wrong\nload 0\nret\nwrong:\nnil\nret")
	// Each sum is known only once what it asks for is: so the passes go thrice.
	c := lifted(t, p, 0)
	for range 3 {
		c = obeys(t, p, copies.Run(c))
	}
	b := c.Blocks[0]
	last := b.Ins[len(b.Ins)-1]
	if slices.ContainsFunc(b.Ins, func(x api.RIns) bool { return x.Op == api.RPlain || x.Op == api.RPure }) || last.Op != api.RJump || !slices.Equal(b.Next, []int{1}) || b.Ins[0].Need != 8 {
		t.Errorf("%+v", b)
	}
}
