package live

import (
	"math/rand"
	"slices"
	"strconv"
	"strings"
	"testing"

	"portage/api"
	"portage/base"
	"portage/copies"
	"portage/fold"
	"portage/guess"
	"portage/inline"
	"portage/lift"
	"portage/model"
	"portage/sample"
)

// numbered is a copy each of whose instructions has its own PC: its number in the block.
func numbered(c api.Code) api.Code {
	c = sample.Copied(c)
	for _, b := range c.Blocks {
		for j := range b.Ins {
			b.Ins[j].PC = j
		}
	}
	return c
}

// left are of each block the numbers of the instructions that stay.
func left(c api.Code) [][]int {
	var l [][]int
	for _, b := range Run(numbered(c)).Blocks {
		var stay []int
		for _, x := range b.Ins {
			stay = append(stay, x.PC)
		}
		l = append(l, stay)
	}
	return l
}

// some are numbers from 0 to n - 1: all, or of many some.
func some(n int) []int {
	var l []int
	for k := 0; k < n; k += 1 + n/100 {
		l = append(l, k)
	}
	return l
}

// tellsAfter asks for P24.1, and for what After says of no instruction.
func tellsAfter(t *testing.T, c api.Code, w *rows) {
	t.Helper()
	for k, b := range c.Blocks {
		for _, j := range some(len(b.Ins)) {
			if got := After(c, k, j); !slices.Equal(got, w.behind[k][j].list()) {
				t.Fatalf("behind %d %d are %v, and not %v: %+v", k, j, got, w.behind[k][j].list(), c)
			}
		}
		if After(c, k, len(b.Ins)) != nil || After(c, k, -1) != nil {
			t.Fatalf("something is behind nothing: %+v", c)
		}
	}
	if After(c, len(c.Blocks), 0) != nil || After(c, -1, 0) != nil {
		t.Fatalf("something is behind nothing: %+v", c)
	}
}

// onWays asks for P24.3 and P24.4, of what became of code.
func onWays(t *testing.T, c, d api.Code) {
	t.Helper()
	for k, stay := range left(c) {
		for _, j := range some(len(stay)) {
			if !slices.Equal(After(d, k, j), After(c, k, stay[j])) {
				t.Fatalf("other registers behind %d %d: %+v", k, j, c)
			}
			if x := d.Blocks[k].Ins[j]; quiet(x) && !asked(d, spot{k, j + 1}, x.Dst) {
				t.Fatalf("%d %d stays, and nobody asks: %+v", k, j, c)
			}
		}
		for _, j := range some(len(c.Blocks[k].Ins)) {
			here, stays := slices.BinarySearch(stay, j)
			x := c.Blocks[k].Ins[j]
			if !stays && x.Dst >= 0 && x.Dst < api.MaxRegs && asked(d, spot{k, here}, x.Dst) {
				t.Fatalf("%d %d is asked for, and went: %+v", k, j, c)
			}
		}
	}
}

// obeys asks for all that is promised of any code.
func obeys(t *testing.T, c api.Code) api.Code {
	t.Helper()
	d, w := Run(c), wants(c)
	if !sample.Same(d, w.meant()) {
		t.Fatalf("not by the chapter's words: %+v became %+v", c, d)
	}
	if !sample.Same(Run(d), d) {
		t.Fatalf("once is not enough: %+v became %+v", c, d)
	}
	tellsAfter(t, c, w)
	onWays(t, c, d)
	return d
}

// P24.1 to P24.4: any code of few registers.
func TestCrowds(t *testing.T) {
	r := rand.New(rand.NewSource(241))
	all, out := 0, 0
	for range 15000 {
		c := crowd(r)
		all, out = all+size(c), out+size(c)-size(obeys(t, c))
	}
	if out < 30000 || all-out < 30000 {
		t.Error("few ways:", out, "of", all)
	}
}

// drawProfile is a profile of a program that mostly bets on whole numbers.
func drawProfile(r *rand.Rand, p api.Program) api.Profile {
	f := sample.Profile(r, p)
	for _, l := range f.Funcs {
		for pc := range l {
			if r.Intn(3) > 0 {
				l[pc].A, l[pc].B = 1<<api.Int, 1<<api.Int
			}
		}
	}
	return f
}

// passed is register code of a function behind some passes, in some order.
func passed(t testing.TB, r *rand.Rand, p api.Program, fn int) api.Code {
	c, prof := lifted(t, p, fn), drawProfile(r, p)
	for range r.Intn(7) {
		switch r.Intn(8) {
		case 0, 1:
			c = inline.Run(p, factsOf(t, p), c, prof)
		case 2, 3:
			c = guess.Run(p, c, prof)
		case 4:
			c = fold.Run(p, c)
		case 5:
			c = Run(c)
		default:
			c = copies.Run(c)
		}
	}
	return c
}

// P24.1 to P24.5: right register code stays right; that which is not is turned by the same words.
func TestRunIsRight(t *testing.T) {
	r := rand.New(rand.NewSource(242))
	out := 0
	for range 1000 {
		p := sample.Caller(r, 30)
		f := factsOf(t, p)
		c := passed(t, r, p, r.Intn(len(p.Funcs)))
		if r.Intn(2) == 0 {
			c = sample.Code(r, p, f, c)
		}
		d := obeys(t, c)
		if err := lift.Check(p, f, d); err != api.OK {
			t.Fatalf("%v of %+v", err, d)
		}
		out += size(c) - size(d)
		for range 2 {
			sample.Spoil(r, &c)
			obeys(t, c)
		}
	}
	if out < 2000 {
		t.Error("little was taken out:", out)
	}
}

// trial is register code that goes from a frame over one core, and something else over another that is alike.
type trial struct {
	p    api.Program
	l    api.Limits
	s    api.State
	code api.Code
	f    api.Frame
	room int
	stop int
}

// drawTrial is one from the beginning of a block.
func drawTrial(r *rand.Rand, p api.Program, f api.Facts, c api.Code, b api.Block) trial {
	s := sample.State(r, p)
	k := trial{p: p, s: s, code: c, f: sample.Frame(r, p, f, s, api.Place{Fn: c.Fn, PC: b.PC}), room: 99, stop: -1}
	k.l = api.Limits{Fuel: s.Steps + []int{r.Intn(12), 60, 300}[r.Intn(3)], Budget: s.Spent + []int{r.Intn(12), 300}[r.Intn(2)]}
	if r.Intn(3) == 0 {
		k.stop = s.Steps + r.Intn(20)
	}
	if r.Intn(8) == 0 {
		k.room = r.Intn(2)
	}
	return k
}

// same asks whether it goes as other register code does (P24.5), and tells how it was left.
func (k trial) same(t *testing.T, as api.Code) api.Left {
	t.Helper()
	one, other := core(t, k.p, k.l, k.s), core(t, k.p, k.l, k.s)
	left, want := model.Go(one, k.code, k.f, k.room, k.stop), model.Go(other, as, k.f, k.room, k.stop)
	if left.Why != want.Why || left.Steps != want.Steps || !model.SameFrames(left.Frames, want.Frames) {
		t.Fatalf("it was %+v, and is %+v\n%+v", want, left, k.code)
	}
	if !model.Alike(one, other) {
		t.Fatal("the core holds", model.Held(one), one.Out(), "and held", model.Held(other), other.Out())
	}
	return left
}

// meets asks whether it comes to what the baseline comes to (W7).
func (k trial) meets(t *testing.T) api.Left {
	t.Helper()
	one, other := core(t, k.p, k.l, k.s), core(t, k.p, k.l, k.s)
	left := model.Go(one, k.code, k.f, k.room, k.stop)
	frames, wrong := model.Walk(other, k.f, k.stop, left.Steps)
	if wrong != "" || !model.SameFrames(frames, left.Frames) {
		t.Fatalf("%s: the baseline comes to %v, and the register code to %+v\n%+v", wrong, frames, left, k.code)
	}
	if !model.Alike(one, other) {
		t.Fatal("the register code's core holds", model.Held(one), one.Out(), "the baseline's", model.Held(other), other.Out())
	}
	return left
}

// tally is how often code was left for each reason, and how often behind some steps.
type tally struct {
	whys  [api.LeftCode + 1]int
	steps int
}

func (n *tally) add(left api.Left) {
	n.whys[left.Why]++
	if left.Steps > 5 {
		n.steps++
	}
}

func (n *tally) enough(t *testing.T) {
	t.Helper()
	if slices.Min(n.whys[api.LeftGuard:]) < 100 || n.steps < 500 {
		t.Error("few ways:", n)
	}
}

// P24.5: any right register code, whatever it means.
func TestMeaningOfAny(t *testing.T) {
	r := rand.New(rand.NewSource(243))
	var n tally
	out := 0
	for range 2500 {
		p := sample.Caller(r, 25)
		f := factsOf(t, p)
		c := sample.Code(r, p, f, passed(t, r, p, r.Intn(3)))
		d := Run(c)
		out += size(c) - size(d)
		for _, b := range d.Blocks {
			n.add(drawTrial(r, p, f, d, b).same(t, c))
		}
	}
	if n.enough(t); out < 2000 {
		t.Error("little was taken out:", out)
	}
}

// P24.5 and W7: behind any passes in any order, and with others behind it, the code goes as the baseline does.
func TestMeaningOfPasses(t *testing.T) {
	r := rand.New(rand.NewSource(244))
	var n tally
	two, out := 0, 0
	for range 2500 {
		p := sample.Caller(r, 30)
		f, prof := factsOf(t, p), drawProfile(r, p)
		c := passed(t, r, p, r.Intn(3))
		d := Run(c)
		behind := Run(fold.Run(p, copies.Run(guess.Run(p, inline.Run(p, f, d, prof), prof))))
		out += size(c) - size(d)
		for _, b := range d.Blocks {
			k := drawTrial(r, p, f, d, b)
			n.add(k.same(t, c))
			k.meets(t)
			k.code = behind
			left := k.meets(t)
			two += len(left.Frames) - 1
		}
	}
	if n.enough(t); two < 100 || out < 2000 {
		t.Error("few ways into functions, or little taken out:", two, out)
	}
}

// teller tells the text of a program that reckons, and forgets much of what it reckoned.
type teller struct {
	*rand.Rand
	strings.Builder
	labels int
}

func (w *teller) line(words ...string) { w.WriteString(strings.Join(words, " ") + "\n") }

// pick is one of some words.
func (w *teller) pick(words ...string) string { return words[w.Intn(len(words))] }

// number tells what lays one value down.
func (w *teller) number(depth int) {
	switch k := w.Intn(6); {
	case k < 3 && depth > 0:
		w.number(depth - 1)
		w.number(depth - 1)
		w.line(w.pick("add", "sub", "mul", "lt", "eq", "ne"))
	case k == 3 && depth > 0:
		w.number(depth - 1)
		w.line(w.pick("neg", "test", "flip"))
	case k == 4:
		w.line("int", w.pick("0", "1", "7"))
	default:
		w.line("load", w.pick("0", "1", "2"))
	}
}

// statement tells what leaves the stack as it was.
func (w *teller) statement(depth int) {
	w.number(2)
	switch k := w.Intn(12); {
	case k == 0:
		w.line("print")
	case k == 1:
		w.line("pop")
	case k < 5 && depth > 0:
		label := "l" + strconv.Itoa(w.labels)
		w.labels++
		w.line(w.pick("jz", "jnz"), label)
		for range 1 + w.Intn(3) {
			w.statement(depth - 1)
		}
		w.line(label + ":")
	default:
		w.line("store", w.pick("0", "1", "2"))
	}
}

// told is a program that goes round and round.
func told(t testing.TB, r *rand.Rand) api.Program {
	w := teller{Rand: r}
	w.line("func main 0 3\nagain:")
	for range 2 + r.Intn(6) {
		w.statement(2)
	}
	w.line("jump again")
	return parsed(t, w.String())
}

// P24.5: the same of programs that go round with whole numbers, of which guess and copies make what nobody asks for.
func TestMeaningOfRounds(t *testing.T) {
	r := rand.New(rand.NewSource(245))
	var n tally
	out := 0
	for range 2000 {
		p := told(t, r)
		f := factsOf(t, p)
		c := passed(t, r, p, 0)
		if r.Intn(2) == 0 {
			c = copies.Run(guess.Run(p, c, drawProfile(r, p)))
		}
		d := Run(c)
		out += size(c) - size(d)
		for _, b := range d.Blocks {
			k := drawTrial(r, p, f, d, b)
			for j := range k.f.Slots {
				if r.Intn(3) > 0 {
					k.f.Slots[j] = api.Value{Kind: api.Int, N: int64(r.Intn(5))}
				}
			}
			n.add(k.same(t, c))
			k.meets(t)
		}
	}
	if n.enough(t); out < 10000 {
		t.Error("little was taken out:", out)
	}
}

// loops are programs whose main makes values that it asks for, now and then, and others that it never does.
func loops() []string {
	return []string{
		// one local that only feeds itself, one that is printed
		"func main 0 3\nint 9\nstore 0\nagain:\nload 1\ntest\nstore 1\nload 2\nload 2\neq\nstore 2\nload 0\nprint\nload 0\nint 1\nsub\nstore 0\njump again",
		// values that are dropped, swapped and laid twice
		"func main 0 2\nint 5\nstore 0\nagain:\nload 0\nload 1\nswap\npop\npop\nload 0\ndup\neq\npop\nload 0\nint 2\nsub\ndup\nstore 0\nprint\njump again",
		// asked for on one way, and not on the other one
		"func main 0 3\nint 3\nstore 0\nagain:\nload 0\nload 1\nlt\nstore 2\nload 0\nint 1\nsub\ndup\nstore 0\njz other\nload 2\nprint\njump again\nother:\nint 8\nstore 0\nnil\nstore 2\njump again",
		// a call of a small function, and what traps being taken
		"func main 0 2\nint 3\nstore 0\nagain:\nload 0\nint 4\nfunc f\nswap\ncall 1\nstore 1\npop\nfrom:\nload 1\nload 0\ndiv\nto:\npop\nload 0\nint 1\nsub\nstore 0\nload 1\nprint\njump again\ncatch:\nprint\nint 2\nstore 0\njump again\nhandler from to catch 0\nfunc f 1 1\nload 0\nload 0\nmul\nint 1\nstore 0\nret",
	}
}

// compiled is main behind all passes.
func compiled(t *testing.T, p api.Program, whole bool) api.Code {
	prof := api.Profile{}
	for _, f := range p.Funcs {
		spots := make([]api.Spot, len(f.Code))
		for pc := range spots {
			spots[pc] = api.Spot{Count: 5, A: 1 << api.Int, B: 1 << api.Int, Callee: 2}
		}
		prof.Funcs = append(prof.Funcs, spots)
	}
	if !whole {
		return obeys(t, copies.Run(lifted(t, p, 0)))
	}
	c := guess.Run(p, inline.Run(p, factsOf(t, p), obeys(t, lifted(t, p, 0)), prof), prof)
	return obeys(t, fold.Run(p, copies.Run(c)))
}

// P24.5: stopped at every step and at every end of fuel, with much room and with little.
func TestLoopsAreKept(t *testing.T) {
	for k, text := range loops() {
		p := parsed(t, text)
		for _, whole := range []bool{false, true} {
			x := compiled(t, p, whole)
			if size(x)+4 > size(lifted(t, p, 0)) && !whole {
				t.Error(k, "little was taken out:", size(x))
			}
			f := api.Frame{Slots: make([]api.Value, p.Funcs[0].Locals)}
			for fuel := range 110 {
				for stop := -1; stop < 110; stop += 1 + fuel%7 {
					trial{p, api.Limits{Fuel: fuel, Budget: 20}, api.State{}, x, f, 99 * (fuel % 3), stop}.meets(t)
				}
			}
		}
	}
}

// run runs main in both tiers: register code where a block begins, if there is any, a step of the baseline where that made none.
func run(c *base.Core, x api.Code) api.Event {
	f := &api.Fiber{Frames: []api.Frame{{Slots: make([]api.Value, c.World().Program.Funcs[0].Locals)}}}
	for {
		top := f.Frames[len(f.Frames)-1]
		if len(f.Frames) == 1 && slices.ContainsFunc(x.Blocks, func(b api.Block) bool { return b.PC == top.PC }) {
			f.Frames = model.Go(c, x, top, 99, -1).Frames
		}
		if e := c.Step(f); e.Kind != api.EvStep {
			return e
		}
	}
}

// P24.5: whole runs end as the baseline's do.
func TestWholeRuns(t *testing.T) {
	for k, text := range loops() {
		p := parsed(t, text)
		for _, whole := range []bool{false, true} {
			x := compiled(t, p, whole)
			for _, l := range []api.Limits{{Fuel: 2000, Budget: 5000}, {Fuel: 333, Budget: 5000}, {Fuel: 2000, Budget: 40}} {
				plain, fast := core(t, p, l, api.State{}), core(t, p, l, api.State{})
				want := run(plain, api.Code{})
				if e := run(fast, x); e != want || !model.Alike(plain, fast) {
					t.Error(k, l, "ends with", e, "and not with", want)
				}
			}
		}
	}
}
