package compile

import (
	"math/rand"
	"slices"
	"sync"
	"sync/atomic"
	"testing"

	"portage/api"
	"portage/sample"
)

// The calls of a cache.
const (
	callCompile = iota
	callGet
	callLen
	callAll
	calls
)

// call is one of them: of some functions (of one, but for All), with some passes.
type call struct {
	what, passes int
	fns          []int
}

// answer is what it answered: whether, for each function; how many; or with which passes the code was made.
type answer struct {
	oks []bool
	n   int
}

// few is how many functions these calls are of: the last one is not there.
const few = 4

// drawCall is a call of few functions.
func drawCall(r *rand.Rand) call {
	x := call{what: r.Intn(calls), passes: []int{0, 2, 31, 32}[r.Intn(4)], fns: []int{r.Intn(few)}}
	for x.what == callAll && r.Intn(3) > 0 {
		x.fns = append(x.fns, r.Intn(few))
	}
	return x
}

// rounds is what caches are asked with: a program of few functions, a profile, and the code that each of some passes makes.
type rounds struct {
	p     api.Program
	f     api.Facts
	prof  api.Profile
	codes [few - 1]map[int]api.Code
}

func newRounds(t *testing.T) rounds {
	p, _ := many(t)
	p.Funcs = p.Funcs[:few-1]
	x := rounds{p: p, f: factsOf(t, p), prof: everywhere(p, api.Spot{Count: 1, A: 1 << api.Int, B: 1 << api.Int})}
	for fn := range p.Funcs {
		x.codes[fn] = map[int]api.Code{}
		for _, passes := range []int{0, 2, 31} {
			x.codes[fn][passes] = compiled(t, p, fn, x.prof, passes)
		}
	}
	return x
}

// made is with which passes the code of a function was made; -1: with none of them.
func (x rounds) made(fn int, c api.Code) int {
	for passes, want := range x.codes[fn] {
		if sample.Same(c, want) {
			return passes
		}
	}
	return -1
}

// ask makes a call of a cache.
func (x rounds) ask(c *Cache, k call) answer {
	switch k.what {
	case callCompile:
		return answer{oks: []bool{c.Compile(k.fns[0], x.prof, k.passes)}}
	case callGet:
		code, ok := c.Get(k.fns[0])
		if !ok {
			return answer{oks: []bool{false}}
		}
		return answer{oks: []bool{true}, n: x.made(k.fns[0], code)}
	case callLen:
		return answer{n: c.Len()}
	}
	return answer{oks: c.All(k.fns, x.prof, k.passes)}
}

// store is a cache in which each function has the passes of its code and 1 more, or 0.
type store [few]int

// meant is what such a cache answers, one call behind the other.
func (s *store) meant(k call) answer {
	var a answer
	switch k.what {
	case callLen:
		for _, made := range s {
			a.n += min(made, 1)
		}
	case callGet:
		a.oks = []bool{s[k.fns[0]] > 0}
		a.n = max(s[k.fns[0]]-1, 0)
	default:
		for _, fn := range k.fns {
			if s[fn] == 0 && fn < few-1 && k.passes < 32 {
				s[fn] = k.passes + 1
			}
			a.oks = append(a.oks, s[fn] > 0)
		}
	}
	return a
}

// event is a call and its answer.
type event struct {
	call
	answer
}

// explained tells whether some order of all calls, that keeps the order of each row, has these answers.
func explained(s store, rows [][]event) bool {
	left := false
	for k, row := range rows {
		if len(row) == 0 {
			continue
		}
		left = true
		next := s
		a := next.meant(row[0].call)
		if a.n != row[0].n || !slices.Equal(a.oks, row[0].oks) {
			continue
		}
		rest := slices.Clone(rows)
		rest[k] = row[1:]
		if explained(next, rest) {
			return true
		}
	}
	return !left
}

// asked asks a cache from several goroutines at the same time, each a row of calls.
func (x rounds) asked(c *Cache, rows [][]event) {
	var wait sync.WaitGroup
	begin := make(chan int)
	for _, row := range rows {
		wait.Add(1)
		go func() {
			defer wait.Done()
			<-begin
			for k := range row {
				row[k].answer = x.ask(c, row[k].call)
			}
		}()
	}
	close(begin)
	wait.Wait()
}

// P25.4: whatever several goroutines ask at the same time, some order of their calls has these answers.
func TestSomeOrder(t *testing.T) {
	r := rand.New(rand.NewSource(257))
	x := newRounds(t)
	for range 4000 {
		rows := make([][]event, 2+r.Intn(3))
		for k := range rows {
			for range 1 + r.Intn(4) {
				rows[k] = append(rows[k], event{call: drawCall(r)})
			}
		}
		x.asked(NewCache(x.p, x.f), rows)
		if !explained(store{}, rows) {
			t.Fatalf("no order of the calls has these answers: %+v", rows)
		}
	}
}

// What is asked of the answers can fail.
func TestNoOrder(t *testing.T) {
	get := func(fn, made int) event {
		return event{call{what: callGet, fns: []int{fn}}, answer{[]bool{true}, made}}
	}
	put := func(passes int, fns ...int) event {
		return event{call{callAll, passes, fns}, answer{slices.Repeat([]bool{true}, len(fns)), 0}}
	}
	length := func(n int) event { return event{call{what: callLen}, answer{n: n}} }
	for k, x := range []struct {
		rows [][]event
		want bool
	}{
		{[][]event{{put(31, 0)}, {put(0, 0)}, {get(0, 0)}}, true},
		{[][]event{{put(31, 0)}, {put(0, 0)}, {get(0, 0), get(0, 31)}}, false},
		{[][]event{{put(31, 0, 1)}, {length(0), length(2), get(1, 31)}}, true},
		{[][]event{{put(31, 0, 1)}, {length(1)}}, false},
		{[][]event{{put(32, 0, 1)}, {put(0, 0, 1)}}, true},
		{[][]event{{put(32, 0), length(0)}, {put(0, 0)}}, false},
	} {
		if explained(store{}, x.rows) != x.want {
			t.Error(k)
		}
	}
}

// P25.4: All is one call: nobody sees a part of what it lays in.
func TestAllIsOne(t *testing.T) {
	p, prof := many(t)
	f := factsOf(t, p)
	var fns []int
	for fn := range p.Funcs {
		fns = append(fns, fn)
	}
	for range 20 {
		c := NewCache(p, f)
		var ended atomic.Bool
		var wait sync.WaitGroup
		for range 3 {
			wait.Add(1)
			go func() {
				defer wait.Done()
				for !ended.Load() {
					_, one := c.Get(fns[0])
					n := c.Len()
					if n != 0 && n != len(fns) || one && n == 0 {
						t.Error("it holds", n)
						return
					}
				}
			}()
		}
		for range 2 {
			wait.Add(1)
			go func() {
				defer wait.Done()
				if slices.Contains(c.All(fns, prof, 31), false) || c.Len() != len(fns) {
					t.Error("not all")
				}
			}()
		}
		for c.Len() < len(fns) {
			c.Get(1)
		}
		ended.Store(true)
		wait.Wait()
	}
}

// P25.4: what came first stays, whoever comes at the same time; all see the same code, and change their own alone.
func TestFirstStays(t *testing.T) {
	x := newRounds(t)
	for range 200 {
		c := NewCache(x.p, x.f)
		saw := make([][]int, 6)
		var wait sync.WaitGroup
		for k := range saw {
			wait.Add(1)
			go func() {
				defer wait.Done()
				c.Compile(1, x.prof, []int{0, 2, 31}[k%3])
				for range 5 {
					code, _ := c.Get(1)
					saw[k] = append(saw[k], x.made(1, code))
					code.Blocks[0].Ins[0].Exit[0].Slots[0].N++
					code.Blocks[0].Ins[0].Need++
				}
			}()
		}
		wait.Wait()
		if l := slices.Compact(slices.Concat(saw...)); len(l) != 1 || l[0] < 0 {
			t.Fatal("codes of passes", saw)
		}
	}
}
