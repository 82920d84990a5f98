package compile

import (
	"math/rand"
	"runtime"
	"slices"
	"strconv"
	"testing"
	"time"

	"portage/api"
	"portage/sample"
)

// P25.2 and P25.3: the chapter's examples.
func TestCacheExamples(t *testing.T) {
	p, prof := example(t)
	c := NewCache(p, factsOf(t, p))
	if x, ok := c.Get(1); ok || !sample.Same(x, api.Code{}) || c.Len() != 0 {
		t.Error("of an empty cache:", x, ok, c.Len())
	}
	if !c.Compile(1, prof, 0) || !c.Compile(1, prof, 31) || c.Compile(9, prof, 0) || c.Len() != 1 {
		t.Error("Compile, and then", c.Len())
	}
	if x, ok := c.Get(1); !ok || !sample.Same(x, lifted(t, p, 1)) {
		t.Error("what came first does not stay:", x, ok)
	}
	if got := c.All([]int{0, 9, 1, 0}, prof, 31); !slices.Equal(got, []bool{true, false, true, true}) || c.Len() != 2 {
		t.Error("All:", got, c.Len())
	}
	if got := c.All([]int{0, 1}, prof, 32); !slices.Equal(got, []bool{true, true}) || c.Len() != 2 {
		t.Error("All of what is held:", got, c.Len())
	}
	if x, _ := c.Get(0); !sample.Same(x, compiled(t, p, 0, prof, 31)) {
		t.Error("All laid in", x)
	}
}

// cache is what the chapter says of one, with no goroutine in it.
type cache struct {
	p     api.Program
	f     api.Facts
	codes map[int]api.Code
}

func (c *cache) compile(fn int, prof api.Profile, passes int) bool {
	if _, ok := c.codes[fn]; ok {
		return true
	}
	x, err := Function(c.p, c.f, fn, prof, passes)
	if err == api.OK {
		c.codes[fn] = x
	}
	return err == api.OK
}

func (c *cache) all(fns []int, prof api.Profile, passes int) []bool {
	var l []bool
	for _, fn := range fns {
		l = append(l, c.compile(fn, prof, passes))
	}
	return l
}

// holds asks whether a cache holds what is meant, of all numbers.
func holds(t *testing.T, c *Cache, want *cache) {
	t.Helper()
	if c.Len() != len(want.codes) {
		t.Fatal("it holds", c.Len(), "and not", len(want.codes))
	}
	for _, fn := range append(sample.Edges(), 4, 5, 6, 7, 8, 11, 12, 13) {
		x, ok := c.Get(fn)
		y, there := want.codes[fn]
		if ok != there || !sample.Same(x, y) {
			t.Fatal(fn, "is", ok, x, "and not", there, y)
		}
	}
}

// drawFunction is the number of a function of a program, or of none.
func drawFunction(r *rand.Rand, p api.Program) int {
	if r.Intn(5) == 0 {
		return sample.Edge(r)
	}
	return r.Intn(len(p.Funcs) + 1)
}

// drawCallPasses are passes, or no such.
func drawCallPasses(r *rand.Rand) int {
	if r.Intn(4) == 0 {
		return faults()[r.Intn(len(faults()))]
	}
	return drawPasses(r)
}

// P25.2 and P25.3: rows of calls, of two caches that know nothing of one another, are answered as the chapter says.
func TestCalls(t *testing.T) {
	r := rand.New(rand.NewSource(256))
	full := 0
	for range 300 {
		p := sample.Caller(r, 20)
		f := factsOf(t, p)
		got := []*Cache{NewCache(p, f), NewCache(p, f)}
		want := []*cache{{p, f, map[int]api.Code{}}, {p, f, map[int]api.Code{}}}
		for range 12 {
			k, prof, passes := r.Intn(2), drawProfile(r, p), drawCallPasses(r)
			var fns []int
			for range r.Intn(2) * r.Intn(12) {
				fns = append(fns, drawFunction(r, p))
			}
			if fn := drawFunction(r, p); r.Intn(2) == 0 && got[k].Compile(fn, prof, passes) != want[k].compile(fn, prof, passes) {
				t.Fatal("Compile of", fn, passes)
			}
			if l, m := got[k].All(fns, prof, passes), want[k].all(fns, prof, passes); !slices.Equal(l, m) {
				t.Fatal("All of", fns, passes, "is", l, "and not", m)
			}
			holds(t, got[0], want[0])
			holds(t, got[1], want[1])
		}
		if got[0].Len() == len(p.Funcs) {
			full++
		}
	}
	if full < 5 {
		t.Error("few became full:", full)
	}
}

// P25.2: a call that fails leaves all as it is, ahead of a code and behind it.
func TestFailing(t *testing.T) {
	p, prof := example(t)
	c := NewCache(p, factsOf(t, p))
	for range 2 {
		n := c.Len()
		for _, passes := range faults() {
			if c.Compile(1, prof, passes) || c.Compile(2, prof, passes) || c.Compile(-1, prof, passes) {
				t.Error("it compiled with", passes)
			}
		}
		for _, fn := range sample.Edges() {
			if fn != 0 && fn != 1 && (c.Compile(fn, prof, 31) || slices.Contains(c.All([]int{fn, fn}, prof, 31), true)) {
				t.Error("it compiled", fn)
			}
		}
		if c.Len() != n {
			t.Error("it holds", c.Len())
		}
		c.Compile(0, prof, 7)
	}
	if x, _ := c.Get(0); !sample.Same(x, compiled(t, p, 0, prof, 7)) {
		t.Error("it holds", x)
	}
}

// many is a program of as many functions as there may be, which all reckon, each its own numbers.
func many(t testing.TB) (api.Program, api.Profile) {
	text := ""
	for k := range api.MaxFuncs {
		params := " 1 1"
		if k == 0 {
			params = " 0 1"
		}
		n := strconv.Itoa(k)
		text += "func f" + n + params + "\nagain:\nload 0\nint " + n + "\nadd\nstore 0\nload 0\nprint\nfunc f" + n + "\nload 0\ncall 1\npop\nload 0\njnz again\nload 0\nret\n"
	}
	p := parsed(t, text)
	return p, everywhere(p, api.Spot{Count: 1, A: 1 << api.Int, B: 1 << api.Int})
}

// P25.3: as many functions as there may be, each several times, forwards and backwards, among a great many numbers of none.
func TestAllOfMany(t *testing.T) {
	p, prof := many(t)
	c := NewCache(p, factsOf(t, p))
	c.Compile(100, prof, 0)
	var fns []int
	for k := range 1 << 17 {
		fns = append(fns, k-60000)
	}
	for k := range 3 * api.MaxFuncs {
		fns = append(fns, k%api.MaxFuncs, api.MaxFuncs-1-k%api.MaxFuncs)
	}
	got := c.All(fns, prof, 31)
	for k, fn := range fns {
		if got[k] != (fn >= 0 && fn < api.MaxFuncs) {
			t.Fatal(k, fn, got[k])
		}
	}
	if len(got) != len(fns) || c.Len() != api.MaxFuncs {
		t.Error(len(got), c.Len())
	}
	for fn := range p.Funcs {
		passes := 31
		if fn == 100 {
			passes = 0
		}
		if x, ok := c.Get(fn); !ok || x.Fn != fn || !sample.Same(x, compiled(t, p, fn, prof, passes)) {
			t.Error(fn, "is", ok, x)
		}
	}
}

// P25.3: what All starts has ended when it answers.
func TestNothingGoesOn(t *testing.T) {
	p, prof := many(t)
	before := runtime.NumGoroutine()
	for range 20 {
		c := NewCache(p, factsOf(t, p))
		fns := make([]int, 50)
		for k := range fns {
			fns[k] = k
		}
		c.All(fns, prof, 31)
		// A goroutine that is joined may still be on its last way out.
		for k := 0; runtime.NumGoroutine() > before; k++ {
			if k > 2000 {
				t.Fatal(runtime.NumGoroutine(), "go on, and were", before)
			}
			time.Sleep(time.Millisecond)
		}
	}
}
