package compile

import (
	"math/rand"
	"slices"
	"strings"
	"testing"

	"portage/api"
	"portage/copies"
	"portage/fold"
	"portage/guess"
	"portage/inline"
	"portage/lift"
	"portage/listing"
	"portage/live"
	"portage/sample"
)

// turn is one of the chapter's passes, with the bits that ask for it.
type turn struct {
	bits []int
	do   func(c api.Code) api.Code
}

// turns are the chapter's, in its order.
func turns(p api.Program, f api.Facts, prof api.Profile) []turn {
	return []turn{
		{[]int{1}, func(c api.Code) api.Code { return inline.Run(p, f, c, prof) }},
		{[]int{2}, func(c api.Code) api.Code { return guess.Run(p, c, prof) }},
		{[]int{4}, copies.Run},
		{[]int{8}, func(c api.Code) api.Code { return fold.Run(p, c) }},
		{[]int{4, 8}, copies.Run},
		{[]int{16}, live.Run},
	}
}

// asked are those of some turns that passes ask for.
func asked(l []turn, passes int) []turn {
	return slices.DeleteFunc(slices.Clone(l), func(x turn) bool {
		return slices.ContainsFunc(x.bits, func(bit int) bool { return passes/bit%2 == 0 })
	})
}

// done is what some turns make of code, one behind the other.
func done(c api.Code, l []turn) api.Code {
	for _, x := range l {
		c = x.do(c)
	}
	return c
}

// P25.1: the chapter's examples.
func TestExamples(t *testing.T) {
	p, prof := example(t)
	f := factsOf(t, p)
	if c, err := Function(p, f, 1, prof, 0); err != api.OK || !sample.Same(c, lifted(t, p, 1)) {
		t.Error(err, c)
	}
	for _, x := range []struct {
		fn, passes int
		want       api.Errno
	}{{1, 32, api.ErrArg}, {9, -1, api.ErrArg}, {9, 1, api.ErrIndex}} {
		if c, err := Function(p, f, x.fn, prof, x.passes); err != x.want || !sample.Same(c, api.Code{}) {
			t.Error(x, err, c)
		}
	}
}

// P25.1 and R2: numbers of passes, and then functions, that are not there; beside an error nothing is answered.
func TestErrors(t *testing.T) {
	p, prof := example(t)
	f := factsOf(t, p)
	for _, fn := range append(sample.Edges(), 0, 1, 2) {
		there := fn == 0 || fn == 1
		for _, passes := range faults() {
			if c, err := Function(p, f, fn, prof, passes); err != api.ErrArg || c.Fn != 0 || c.Regs != 0 || len(c.Blocks) != 0 {
				t.Error(fn, passes, err, c)
			}
		}
		for passes := range 32 {
			c, err := Function(p, f, fn, prof, passes)
			if there != (err == api.OK) || !there && (err != api.ErrIndex || c.Fn != 0 || c.Regs != 0 || len(c.Blocks) != 0) {
				t.Error(fn, passes, err, c)
			}
			if there && c.Fn != fn {
				t.Error(fn, "became", c.Fn)
			}
		}
	}
}

// P25.1 and P25.5: what is answered, is what the chapter's passes make, one behind the other; and it is right. Among what is drawn each of them can be told, and its place behind the one ahead.
func TestPasses(t *testing.T) {
	r := rand.New(rand.NewSource(251))
	var without, swapped [6]int
	for range 500 {
		p := sample.Caller(r, 30)
		f, prof := factsOf(t, p), drawProfile(r, p)
		fn := r.Intn(len(p.Funcs))
		c := lifted(t, p, fn)
		for passes := range 32 {
			l := asked(turns(p, f, prof), passes)
			got, err := Function(p, f, fn, prof, passes)
			if err != api.OK || lift.Check(p, f, got) != api.OK {
				t.Fatal(passes, err, lift.Check(p, f, got), got)
			}
			if !sample.Same(got, done(c, l)) {
				t.Fatalf("passes %d: %+v became %+v", passes, c, got)
			}
			if passes != api.AllPasses {
				continue
			}
			for k := range l {
				if !sample.Same(got, done(c, slices.Delete(slices.Clone(l), k, k+1))) {
					without[k]++
				}
				other := slices.Clone(l)
				other[k], other[(k+1)%6] = other[(k+1)%6], other[k]
				if !sample.Same(got, done(c, other)) {
					swapped[k]++
				}
			}
		}
	}
	// A guess and the copies behind it come to the same in either order.
	places := slices.Delete(swapped[:], 1, 2)
	if slices.Min(without[:]) < 15 || slices.Min(places) < 15 {
		t.Error("few can be told:", without, places)
	}
}

// P25.1: a call of a small function whose value all passes together work out; each subset of the passes is told by its words.
func TestTogether(t *testing.T) {
	p := parsed(t, "func main 0 0\nfunc f\nint 5\ncall 1\nret\nfunc f 1 1\nload 0\nload 0\nmul\nret")
	prof := everywhere(p, api.Spot{Count: 1, A: 1 << api.Int, B: 1 << api.Int, Callee: 2})
	for _, x := range []struct {
		passes int
		lines  []string
	}{
		{api.AllPasses, []string{
			"code 0 7", "block 0 0 1",
			"point nop -1 0 0 2 : | 0 0",
			"callee nop -1 1 2 5 : f1 | 0 2 f1 5",
			"move nop 0 0 3 0 : 25",
			"jump nop -1 1 3 0 :",
			"block 1 3",
			"point nop -1 0 3 0 : | 0 3 r0",
			"leave nop -1 0 3 0 : | 0 3 r0",
		}},
		// The value of the guarded mul is moved on, unless it is asked for at its source once more.
		{api.AllPasses - api.PassLive, []string{
			"code 0 7", "block 0 0 1",
			"point nop -1 0 0 2 : | 0 0",
			"move nop 0 0 0 0 : f1", "move nop 1 0 1 0 : 5",
			"callee nop -1 1 2 5 : f1 | 0 2 f1 5",
			"move nop 3 0 2 0 : 5", "move nop 4 0 0 0 : 5", "move nop 5 0 1 0 : 5", "move nop 4 0 2 0 : 25",
			"move nop 0 0 3 0 : 25",
			"jump nop -1 1 3 0 :",
			"block 1 3",
			"point nop -1 0 3 0 : | 0 3 r0",
			"leave nop -1 0 3 0 : | 0 3 r0",
		}},
		{api.PassGuess | api.PassLive, []string{
			"code 0 3", "block 0 0",
			"point nop -1 0 0 2 : | 0 0",
			"move nop 0 0 0 0 : f1", "move nop 1 0 1 0 : 5",
			"leave nop -1 0 2 0 : | 0 2 r0 r1",
			"block 1 3",
			"point nop -1 0 3 0 : | 0 3 r0",
			"leave nop -1 0 3 0 : | 0 3 r0",
		}},
	} {
		if got, want := words(listing.Code(compiled(t, p, 0, prof, x.passes))), words(strings.Join(x.lines, "\n")); got != want {
			t.Errorf("passes %d:\n%s\nand not\n%s", x.passes, got, want)
		}
	}
}

// words is a text with one space between its words, line by line.
func words(text string) string {
	var l []string
	for line := range strings.Lines(text) {
		l = append(l, strings.Join(strings.Fields(line), " "))
	}
	return strings.Join(l, "\n")
}
