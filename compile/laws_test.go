package compile

import (
	"math/rand"
	"slices"
	"strconv"
	"strings"
	"testing"

	"portage/api"
	"portage/base"
	"portage/lift"
	"portage/model"
	"portage/sample"
)

// trial is register code that goes from a frame over one core, and something else over another that is alike.
type trial struct {
	p    api.Program
	l    api.Limits
	s    api.State
	code api.Code
	f    api.Frame
	room int
	stop int
}

// drawTrial is one from the beginning of a block.
func drawTrial(r *rand.Rand, p api.Program, f api.Facts, c api.Code, b api.Block) trial {
	s := sample.State(r, p)
	k := trial{p: p, s: s, code: c, f: sample.Frame(r, p, f, s, api.Place{Fn: c.Fn, PC: b.PC}), room: 99, stop: -1}
	k.l = api.Limits{Fuel: s.Steps + []int{r.Intn(12), 60, 300}[r.Intn(3)], Budget: s.Spent + []int{r.Intn(12), 300}[r.Intn(2)]}
	if r.Intn(3) == 0 {
		k.stop = s.Steps + r.Intn(20)
	}
	if r.Intn(4) == 0 {
		k.room = []int{0, 1, -1, sample.Edge(r)}[r.Intn(4)]
	}
	return k
}

// numbers lays whole numbers into most slots of the frame, so that it comes far.
func (k *trial) numbers(r *rand.Rand) {
	for j := range k.f.Slots {
		if r.Intn(4) > 0 {
			k.f.Slots[j] = api.Value{Kind: api.Int, N: int64(r.Intn(5))}
		}
	}
}

// meets asks for P25.6, and tells how the code was left.
func (k trial) meets(t *testing.T) api.Left {
	t.Helper()
	one, other := core(t, k.p, k.l, k.s), core(t, k.p, k.l, k.s)
	left := model.Go(one, k.code, k.f, k.room, k.stop)
	frames, wrong := model.Walk(other, k.f, k.stop, left.Steps)
	if wrong != "" || !model.SameFrames(frames, left.Frames) {
		t.Fatalf("%s: the baseline comes to %v, and the register code to %+v\n%+v", wrong, frames, left, k.code)
	}
	if !model.Alike(one, other) {
		t.Fatal("the register code's core holds", model.Held(one), one.Out(), "the baseline's", model.Held(other), other.Out())
	}
	if n := len(left.Frames); n < 1 || n > 2 || n == 2 && k.room < 1 || left.Steps != one.Steps()-k.s.Steps {
		t.Fatal("with room", k.room, "it is left with", left)
	}
	if left.Why == api.LeftStop && !model.Stops(other, last(left.Frames), k.stop) {
		t.Fatal("stopped at no safepoint", left)
	}
	return left
}

// last is where the last one of some frames stands.
func last(l []api.Frame) api.Place {
	f := l[len(l)-1]
	return api.Place{Fn: f.Fn, PC: f.PC}
}

// tally is how often code was left for each reason, how often behind some steps, and how often in the midst of another function.
type tally struct {
	whys       [api.LeftCode + 1]int
	steps, two int
}

func (n *tally) add(left api.Left) {
	n.whys[left.Why]++
	n.two += len(left.Frames) - 1
	if left.Steps > 5 {
		n.steps++
	}
}

func (n *tally) enough(t *testing.T) {
	t.Helper()
	if slices.Min(n.whys[api.LeftGuard:]) < 100 || n.steps < 500 || n.two < 100 {
		t.Error("few ways:", n)
	}
}

// P25.5 and P25.6: any function, whatever the profile and the passes.
func TestMeaning(t *testing.T) {
	r := rand.New(rand.NewSource(252))
	var n tally
	for range 2500 {
		p := sample.Caller(r, 30)
		f := factsOf(t, p)
		c := compiled(t, p, r.Intn(min(4, len(p.Funcs))), drawProfile(r, p), drawPasses(r))
		if err := lift.Check(p, f, c); err != api.OK {
			t.Fatalf("%v of %+v", err, c)
		}
		for _, b := range c.Blocks {
			n.add(drawTrial(r, p, f, c, b).meets(t))
		}
	}
	n.enough(t)
}

// teller tells the text of a program that reckons, much of it with what it knows, and calls small functions for it.
type teller struct {
	*rand.Rand
	strings.Builder
	labels int
}

func (w *teller) line(words ...string) { w.WriteString(strings.Join(words, " ") + "\n") }

// pick is one of some words.
func (w *teller) pick(words ...string) string { return words[w.Intn(len(words))] }

// number tells what lays one value down.
func (w *teller) number(depth int) {
	switch k := w.Intn(9); {
	case k < 3 && depth > 0:
		w.number(depth - 1)
		w.number(depth - 1)
		w.line(w.pick("add", "sub", "mul", "lt", "le", "eq", "ne", "and", "div"))
	case k == 3 && depth > 0:
		w.number(depth - 1)
		w.line(w.pick("neg", "test", "flip", "not", "toreal", "toint"))
	case k < 6 && depth > 0:
		n := w.Intn(3)
		w.line("func", w.pick("a", "b", "c", "a"+strconv.Itoa(n), "b"+strconv.Itoa(n)))
		for range n {
			w.number(depth - 1)
		}
		w.line("call", strconv.Itoa(n))
	case k == 6:
		w.line(w.pick("int 0", "int 1", "int 7", "nil", "true", "const 0"))
	default:
		w.line("load", w.pick("0", "1", "2"))
	}
}

// statement tells what leaves the stack as it was.
func (w *teller) statement(depth int) {
	w.number(2)
	switch k := w.Intn(12); {
	case k < 2:
		w.line("print")
	case k == 2:
		w.line("pop")
	case k < 6 && depth > 0:
		label := "l" + strconv.Itoa(w.labels)
		w.labels++
		w.line(w.pick("jz", "jnz"), label)
		for range 1 + w.Intn(3) {
			w.statement(depth - 1)
		}
		w.line(label + ":")
	default:
		w.line("store", w.pick("0", "1", "2"))
	}
}

// straight tells a small function of n parameters.
func (w *teller) straight(name string, n int) {
	w.line("func", name, strconv.Itoa(n), strconv.Itoa(n+1))
	w.line("load", strconv.Itoa(w.Intn(n+1)))
	for range w.Intn(6) {
		w.line(w.pick("int 1", "int 3", "load 0", "dup"))
		w.line(w.pick("add", "mul", "sub", "eq", "lt", "swap\npop", "store "+strconv.Itoa(n), "print", "pop"))
	}
	w.line("ret")
}

// told is a program whose main goes round and round, and calls what a0 to b2 are, as well as a, b and c, of which the numbers of parameters are 0, 1, 2.
func told(t testing.TB, r *rand.Rand) api.Program {
	w := teller{Rand: r}
	w.line("const real 1.5\nfunc main 0 3\nagain:")
	for range 2 + r.Intn(5) {
		w.statement(2)
	}
	w.line("jump again")
	for k, name := range []string{"a", "b", "c"} {
		w.straight(name, k)
		w.straight("a"+strconv.Itoa(k), k)
		w.straight("b"+strconv.Itoa(k), k)
	}
	return parsed(t, w.String())
}

// truth is a profile of such a program: calls go to the functions that stand in the code ahead of them, what is reckoned with are whole numbers.
func truth(r *rand.Rand, p api.Program) api.Profile {
	f := everywhere(p, api.Spot{Count: 1, A: 1 << api.Int, B: 1 << api.Int})
	for k, fn := range p.Funcs {
		var names []int
		for pc, i := range fn.Code {
			switch i.Op {
			case api.OpFunc:
				names = append(names, int(i.A))
			case api.OpCall:
				f.Funcs[k][pc].Callee = names[len(names)-1] + 1
				names = names[:len(names)-1]
			case api.OpMul, api.OpEq, api.OpLt:
				if r.Intn(3) == 0 {
					f.Funcs[k][pc].A = 1 << api.Real
				}
			}
		}
	}
	return f
}

// P25.6: programs that go round, with profiles that are true in much: code behind many passes goes far, through calls and back.
func TestMeaningOfRounds(t *testing.T) {
	r := rand.New(rand.NewSource(253))
	var n tally
	for range 2500 {
		p := told(t, r)
		f := factsOf(t, p)
		c := compiled(t, p, 0, truth(r, p), drawPasses(r)|r.Intn(2))
		for _, b := range c.Blocks {
			k := drawTrial(r, p, f, c, b)
			k.numbers(r)
			n.add(k.meets(t))
		}
	}
	n.enough(t)
}

// onWay asks whether of two ways from one frame, over equal cores, the one that goes farther has been where the other left, and tells whether it went farther.
func onWay(t *testing.T, k, l trial) bool {
	t.Helper()
	one, other := core(t, k.p, k.l, k.s), core(t, k.p, k.l, k.s)
	near, far := model.Go(one, k.code, k.f, k.room, k.stop), model.Go(other, l.code, k.f, l.room, l.stop)
	if far.Steps < near.Steps {
		near, far, one, other = far, near, other, one
	}
	base := core(t, k.p, k.l, k.s)
	frames, wrong := model.Walk(base, k.f, -1, near.Steps)
	if wrong != "" || !model.SameFrames(frames, near.Frames) || !model.Alike(base, one) {
		t.Fatal(wrong, "the near one is left with", near, "and the baseline comes to", frames)
	}
	fiber := api.Fiber{Frames: frames}
	for range far.Steps - near.Steps {
		if e := base.Step(&fiber); e.Kind != api.EvStep || e.Trap != 0 {
			t.Fatal("no step", e)
		}
	}
	if !model.SameFrames(fiber.Frames, far.Frames) || !model.Alike(base, other) {
		t.Fatal("the far one is left with", far, "and the baseline comes to", fiber.Frames)
	}
	return far.Steps > near.Steps
}

// P25.7: two codes of a function, of any profiles and passes, that go from the same frame over equal cores.
func TestTwoCodes(t *testing.T) {
	r := rand.New(rand.NewSource(254))
	alike, farther := 0, 0
	for range 1500 {
		p, prof := told(t, r), api.Profile{}
		if r.Intn(2) == 0 {
			p = sample.Caller(r, 30)
			prof = drawProfile(r, p)
		} else {
			prof = truth(r, p)
		}
		f := factsOf(t, p)
		c, d := compiled(t, p, 0, prof, drawPasses(r)), compiled(t, p, 0, drawProfile(r, p), drawPasses(r))
		for _, b := range c.Blocks {
			k := drawTrial(r, p, f, c, b)
			k.numbers(r)
			l := k
			l.code = d
			if r.Intn(3) == 0 {
				l.room, l.stop = r.Intn(3), k.s.Steps+r.Intn(20)
			}
			if onWay(t, k, l) {
				farther++
			} else {
				alike++
			}
		}
	}
	if alike < 1000 || farther < 1000 {
		t.Error("few went alike, or farther:", alike, farther)
	}
}

// run runs main in both tiers: register code, out of a cache, where a block begins, a step of the baseline where that is left.
func run(c *base.Core, x *Cache, enter func() bool) api.Event {
	f := &api.Fiber{Frames: []api.Frame{{Slots: make([]api.Value, c.World().Program.Funcs[0].Locals)}}}
	for {
		n := len(f.Frames) - 1
		top := f.Frames[n]
		code, ok := x.Get(top.Fn)
		if ok && enter() && slices.ContainsFunc(code.Blocks, func(b api.Block) bool { return b.PC == top.PC }) {
			f.Frames = append(f.Frames[:n], model.Go(c, code, top, api.MaxFrames-n-1, -1).Frames...)
		}
		if e := c.Step(f); e.Kind != api.EvStep {
			return e
		}
	}
}

// P25.6, P25.7 and W1: whole runs, of all functions that some cache holds, end as the baseline's do, and have done the same.
func TestWholeRuns(t *testing.T) {
	r := rand.New(rand.NewSource(255))
	ends, fast := [api.EvAsk + 1]int{}, 0
	for range 1500 {
		p := told(t, r)
		prof := truth(r, p)
		if r.Intn(2) == 0 {
			p = sample.Caller(r, 30)
			prof = drawProfile(r, p)
		}
		x := NewCache(p, factsOf(t, p))
		for fn := range p.Funcs {
			if r.Intn(4) > 0 {
				x.Compile(fn, prof, drawPasses(r))
			}
		}
		l := api.Limits{Fuel: 50 + r.Intn(250), Budget: r.Intn(300)}
		plain, mixed := core(t, p, l, api.State{}), core(t, p, l, api.State{})
		want := run(plain, NewCache(p, factsOf(t, p)), func() bool { return false })
		got := run(mixed, x, func() bool {
			fast++
			return r.Intn(8) > 0
		})
		if got != want || !model.Alike(plain, mixed) {
			t.Fatal("it ends with", got, "and not with", want)
		}
		ends[want.Kind]++
	}
	if fast < 5000 || ends[api.EvThrown] < 20 || ends[api.EvFuel] < 20 || ends[api.EvHeap] < 20 {
		t.Error("few ways:", ends, fast)
	}
}

// P25.6: stopped at every step and at every end of fuel, with much room and with none, behind all passes that there are.
func TestEveryStop(t *testing.T) {
	for k, text := range []string{
		// a call of a small function that prints, in a loop that ends
		"func main 0 2\nint 3\nstore 0\nagain:\nfunc f\nload 0\nint 4\ncall 2\nstore 1\nload 0\nint 1\nsub\nstore 0\nload 0\njnz again\nload 1\nret\nfunc f 2 3\nload 0\nprint\nload 0\nload 1\nmul\nstore 2\nload 2\nint 1\nadd\nret",
		// what traps is taken, and the value goes on; much is known ahead
		"func main 0 2\nint 2\nstore 0\nagain:\nfrom:\nint 6\nload 0\ndiv\nint 0\nmul\nto:\nstore 1\nload 0\nint 1\nsub\nstore 0\nint 5\nint 5\neq\njnz again\nnil\nret\ncatch:\nprint\nint 2\nint 1\nadd\nstore 0\nfunc f\ncall 0\npop\njump again\nhandler from to catch 0\nfunc f 0 0\nint 2\nint 3\nadd\nprint\nnil\nret",
	} {
		p := parsed(t, text)
		prof := everywhere(p, api.Spot{Count: 1, A: 1 << api.Int, B: 1 << api.Int, Callee: 2})
		f := api.Frame{Slots: make([]api.Value, p.Funcs[0].Locals)}
		for passes := range 32 {
			c := compiled(t, p, 0, prof, passes)
			goesIn := slices.ContainsFunc(c.Blocks, func(b api.Block) bool {
				return slices.ContainsFunc(b.Ins, func(x api.RIns) bool { return x.Op == api.RCallee })
			})
			if goesIn != (passes&api.PassInline != 0) {
				t.Error(k, passes, "goes into the function:", goesIn)
			}
			for fuel := range 90 {
				for stop := -1; stop < 90; stop += 2 + (fuel+passes)%11 {
					trial{p, api.Limits{Fuel: fuel, Budget: 20}, api.State{}, c, f, 99 * (fuel % 3), stop}.meets(t)
				}
			}
		}
	}
}
