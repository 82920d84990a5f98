package verify

import (
	"math/rand"
	"slices"
	"testing"

	"portage/api"
	"portage/code"
	"portage/program"
)

// lawful tells whether numbers, one for each instruction of a function, are as P10.3 says.
func lawful(f api.Function, heights []int) bool {
	if heights[0] != 0 || !ending(f.Code[len(f.Code)-1]) {
		return false
	}
	for pc, i := range f.Code {
		takes, puts, _ := code.Effect(i)
		left := heights[pc] - takes
		if left < 0 || left+puts > api.MaxHeight {
			return false
		}
		for _, n := range nexts(f, pc) {
			if heights[n] != left+puts {
				return false
			}
		}
		for _, h := range f.Handlers {
			if holds(h, pc) && (h.Height > left || heights[h.Target] != h.Height+1) {
				return false
			}
		}
	}
	return true
}

// wayToAll tells whether a way leads from instruction 0 to each instruction, whatever the heights.
func wayToAll(f api.Function) bool {
	reached := make([]bool, len(f.Code))
	var reach func(pc int)
	reach = func(pc int) {
		if reached[pc] {
			return
		}
		reached[pc] = true
		for _, n := range nexts(f, pc) {
			reach(n)
		}
		for _, h := range f.Handlers {
			if holds(h, pc) {
				reach(h.Target)
			}
		}
	}
	reach(0)
	return !slices.Contains(reached, false)
}

// P10.3: the facts of a verified program are lawful, and there is a list and a number for each function.
func TestFactsAreLawful(t *testing.T) {
	r := rand.New(rand.NewSource(103))
	verified := 0
	for range 6000 {
		p, _ := someProgram(r, 24)
		p = copied(p)
		for range r.Intn(3) {
			spoil(r, &p)
		}
		facts, _, err := Program(p)
		if err != api.OK {
			continue
		}
		verified++
		if len(facts.Heights) != len(p.Funcs) || len(facts.Most) != len(p.Funcs) {
			t.Fatal(p, facts)
		}
		for k, f := range p.Funcs {
			l := facts.Heights[k]
			if len(l) != len(f.Code) || !lawful(f, l) || facts.Most[k] != slices.Max(l) {
				t.Fatal(f, l, facts.Most[k])
			}
		}
	}
	if verified < 2000 {
		t.Error("too few:", verified)
	}
}

// numberings calls back with all rows of n numbers below a bound, until it is told that it is enough.
func numberings(n, bound int, enough func([]int) bool) bool {
	row := make([]int, n)
	for {
		if enough(row) {
			return true
		}
		k := 0
		for k < n && row[k] == bound-1 {
			row[k] = 0
			k++
		}
		if k == n {
			return false
		}
		row[k]++
	}
}

// P10.3, P10.4: of all short functions just those are taken for which there are lawful numbers, and a way to each instruction; and the numbers are their heights.
func TestLawfulNumbersAreTheHeights(t *testing.T) {
	for n := 1; n <= 3; n++ {
		for _, hs := range [][]api.Handler{nil, {{To: 1, Target: n - 1}}, {{To: n, Target: 0, Height: 1}}, {{From: n - 1, To: n, Target: n / 2}}, {{To: n, Target: n - 1, Height: 1}}} {
			rows(n, words(n), func(row []api.Instr) {
				p := alone(row, hs...)
				if _, err := program.Check(p); err != api.OK {
					t.Fatal(p, err)
				}
				f := p.Funcs[0]
				facts, _, err := Program(p)
				found := wayToAll(f) && numberings(n, n+2, func(l []int) bool {
					if !lawful(f, l) {
						return false
					}
					if err != api.OK || !slices.Equal(facts.Heights[0], l) {
						t.Fatal(p, "has the numbers", l, "but", facts, err)
					}
					return true
				})
				if found != (err == api.OK) {
					t.Fatal(p, found, err)
				}
			})
		}
	}
}

// P10.5: a function that is given other code, handlers and locals leaves the facts of all others as they were.
func TestFunctionsAreAlone(t *testing.T) {
	r := rand.New(rand.NewSource(105))
	for range 3000 {
		p, facts := someProgram(r, 16)
		k := r.Intn(len(p.Funcs))
		g, heights := fitting(r, 40)
		p.Funcs[k].Code, p.Funcs[k].Handlers = g.Code, g.Handlers
		p.Funcs[k].Locals = max(p.Funcs[k].Params, g.Locals)
		facts.Heights[k], facts.Most[k] = heights, slices.Max(heights)
		if f, at, err := Program(p); err != api.OK || at != (api.Place{}) || !sameFacts(f, facts) {
			t.Fatalf("%v: %v %v %v, not %v", p, f, at, err, facts)
		}
	}
}

// P10.1: names, parameters, locals, constants and what operands name besides places don't matter, as long as they are right.
func TestWhatDoesNotMatter(t *testing.T) {
	r := rand.New(rand.NewSource(106))
	for range 1000 {
		p, facts := someProgram(r, 16)
		p.Consts = append(p.Consts, api.Const{Kind: api.Text, Text: "more"})
		for k := range p.Funcs {
			f := &p.Funcs[k]
			f.Name += "x"
			f.Locals += r.Intn(3)
			if k > 0 {
				f.Params = r.Intn(f.Locals + 1)
			}
			for pc, i := range f.Code {
				if kind, _ := code.Operand(i.Op); kind == code.Consts {
					f.Code[pc].A = 2
				}
			}
		}
		if f, at, err := Program(p); err != api.OK || at != (api.Place{}) || !sameFacts(f, facts) {
			t.Fatalf("%v: %v %v %v, not %v", p, f, at, err, facts)
		}
	}
}
