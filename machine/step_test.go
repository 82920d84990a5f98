package machine

import (
	"fmt"
	"math"
	"math/rand"
	"slices"
	"strings"
	"testing"

	"portage/api"
)

// outcome is what a program comes to.
type outcome struct {
	text         string // of the program
	fuel, budget int
	out          []string
	end          int
	told         string // the end's text
	steps, spent int
}

// comesTo runs a program to its end, step by step and once more at one go.
func comesTo(t *testing.T, c outcome, input ...string) {
	t.Helper()
	if !strings.HasPrefix(c.text, "func main 0") {
		c.text = "func main 0 0 / " + c.text
	}
	p := parsed(t, strings.ReplaceAll(c.text, " / ", "\n"))
	want := api.Report{Out: c.out, End: api.End{Kind: c.end, Text: c.told}, Steps: c.steps, Spent: c.spent}
	m, once := fresh(t, p, c.fuel, c.budget, input...), fresh(t, p, c.fuel, c.budget, input...)
	n := 0
	for m.Step() {
		n++
	}
	if r := m.Report(); !sameReport(r, want) || n != c.steps || m.End() != want.End || !slices.Equal(m.Out(), c.out) {
		t.Errorf("%s: %+v behind %d steps", c.text, r, n)
	}
	if n := once.Run(math.MaxInt); n != c.steps || !sameReport(once.Report(), want) {
		t.Errorf("%s: %+v behind Run, which made %d", c.text, once.Report(), n)
	}
	for range 3 {
		if m.Step() || m.Run(5) != 0 || !sameReport(m.Report(), want) || m.Replace([]api.Frame{frame(0, 0, make([]api.Value, p.Funcs[0].Locals)...)}) {
			t.Errorf("%s: it goes on behind its end: %+v", c.text, m.Report())
		}
		if f, k := m.Top(); k != 0 || !sameFrame(f, api.Frame{}) || m.Safe() || !sameState(m.State(), api.State{}) {
			t.Errorf("%s: it tells of frames behind its end", c.text)
		}
	}
}

// The chapter's examples.
func TestExamples(t *testing.T) {
	for _, c := range []outcome{
		{"int 3 / print / nil / ret", 99, 99, []string{"3"}, api.EndDone, "nil", 4, 2},
		{"int 1 / int 0 / div / ret", 99, 99, nil, api.EndThrown, "divide", 3, 0},
		{"int 1 / int 0 / div / ret", 2, 99, nil, api.EndFuel, "", 2, 0},
		{"chan 1 / recv / ret", 99, 99, nil, api.EndStuck, "", 1, 3},
		{"chan 1 / dup / int 7 / send / recv / ret", 99, 99, nil, api.EndDone, "7", 6, 3},
		{"l: / yield / jump l", 10, 99, nil, api.EndFuel, "", 10, 0},
		{"array 0 / ret", 99, 1, nil, api.EndHeap, "", 0, 0},
		{"chan 1 / dup / int 1 / send / dup / shut / dup / int 2 / send / ret", 99, 99, nil, api.EndThrown, "closed", 9, 3},
		{"func main 0 1 / chan 1 / store 0 / func f / load 0 / spawn 1 / load 0 / recv / ret / func f 1 1 / load 0 / int 5 / send / nil / ret", 99, 99, nil, api.EndDone, "5", 13, 11},
	} {
		comesTo(t, c)
	}
	m := fresh(t, parsed(t, "func main 0 0\nl:\nyield\njump l"), 10, 0)
	for k := range 10 {
		if m.Safe() != (k%2 == 1) {
			t.Error("Safe behind", k)
		}
		m.Step()
	}
	m = fresh(t, parsed(t, "func main 0 1\nchan 1\nstore 0\nfunc f\nload 0\nspawn 1\nload 0\nrecv\nret\nfunc f 1 1\nload 0\nint 5\nsend\nnil\nret"), 99, 99)
	for k, current := range []int{0, 0, 0, 0, 0, 0, 1, 1, 1, 1, 1, 0, 0} {
		if s := m.State(); s.Current != current || s.Steps != k {
			t.Errorf("behind %d: %+v", k, s)
		}
		m.Step()
	}
}

// The edges of what fibers do, and of ends.
func TestOutcomes(t *testing.T) {
	const lots = 9999
	for _, c := range []outcome{
		// Steps that find no fuel and no room; nothing catches these ends.
		{"nil / ret", 0, 0, nil, api.EndFuel, "", 0, 0},
		{"nil / ret", 1, 0, nil, api.EndFuel, "", 1, 0},
		{"nil / ret", 2, 0, nil, api.EndDone, "nil", 2, 0},
		{"from: / chan 2 / ret / to: / ret / handler from to to 0", lots, 3, nil, api.EndHeap, "", 0, 0},
		{"from: / chan 2 / ret / to: / ret / handler from to to 0", lots, 4, nil, api.EndDone, "chan(0)", 2, 4},
		{"from: / yield / nil / ret / to: / ret / handler from to to 0", 0, 0, nil, api.EndFuel, "", 0, 0},
		{"from: / chan 1 / recv / ret / to: / ret / handler from to to 0", lots, lots, nil, api.EndStuck, "", 1, 3},
		{"from: / chan 1 / recv / ret / to: / ret / handler from to to 0", 1, lots, nil, api.EndStuck, "", 1, 3},
		{"from: / func f / spawn 0 / nil / ret / to: / ret / handler from to to 0 / func f 0 0 / nil / ret", lots, 7, nil, api.EndHeap, "", 1, 0},
		{"from: / func f / spawn 0 / nil / ret / to: / ret / handler from to to 0 / func f 0 0 / nil / ret", lots, 8, nil, api.EndDone, "nil", 4, 8},
		// Traps of spawn, their order, and ahead of room.
		{"nil / spawn 0 / nil / ret", lots, 0, nil, api.EndThrown, "type", 2, 0},
		{"record / spawn 0 / nil / ret", lots, 2, nil, api.EndThrown, "type", 2, 2},
		{"func main / nil / spawn 1 / nil / ret", lots, 0, nil, api.EndThrown, "arity", 3, 0},
		{"from: / nil / spawn 0 / nil / ret / to: / ret / handler from to to 0", lots, 0, nil, api.EndDone, "type", 3, 0},
		{"func f / bind 0 / spawn 0 / nil / ret / func f 1 1 / nil / ret", lots, 2, nil, api.EndThrown, "arity", 3, 2},
		{"func f / int 1 / bind 1 / int 2 / spawn 1 / nil / ret / func f 1 1 / nil / ret", lots, 3, nil, api.EndThrown, "arity", 5, 3},
		{"l: / func f / spawn 0 / jump l / func f 0 0 / nil / ret", lots, 248, nil, api.EndThrown, "fibers", 95, 248},
		{"l: / func f / spawn 0 / yield / jump l / func f 0 0 / nil / ret", lots, 248, nil, api.EndThrown, "fibers", 31*6 + 2, 248}, // those that have ended count
		{"l: / func f / spawn 0 / jump l / func f 0 0 / nil / ret", lots, 247, nil, api.EndHeap, "", 91, 240},
		{"from: / l: / func f / spawn 0 / jump l / to: / ret / handler from to to 0 / func f 0 0 / nil / ret", lots, lots, nil, api.EndDone, "fibers", 96, 248},
		// Beyond the greatest number of fibers: what can't be called is asked first.
		{"func main 0 1 / l: / func f / spawn 0 / jump l / on: / pop / nil / spawn 0 / nil / ret / handler l on on 0 / func f 0 0 / nil / ret", lots, lots, nil, api.EndThrown, "type", 98, 248},
		{"func main 0 1 / l: / func f / spawn 0 / jump l / on: / pop / func f / nil / spawn 1 / nil / ret / handler l on on 0 / func f 0 0 / nil / ret", lots, lots, nil, api.EndThrown, "arity", 99, 248},
		// Values that are bound come first, then the others; locals more are nil.
		{"func f / int 1 / bind 1 / int 2 / spawn 1 / yield / nil / ret / func f 2 3 / load 0 / print / load 1 / print / load 2 / print / nil / ret", lots, lots, []string{"1", "2", "nil"}, api.EndDone, "nil", 16, 3 + 8 + 2 + 2 + 4},
		// Traps of channels.
		{"int 1 / int 2 / send / nil / ret", lots, lots, nil, api.EndThrown, "type", 3, 0},
		{"array 0 / recv / ret", lots, lots, nil, api.EndThrown, "type", 2, 2},
		{"chan 1 / dup / shut / int 2 / send / nil / ret", lots, lots, nil, api.EndThrown, "closed", 5, 3},
		{"from: / chan 1 / dup / shut / int 2 / send / nil / ret / to: / ret / handler from to to 0", lots, lots, nil, api.EndDone, "closed", 6, 3},
		{"chan 1 / dup / shut / recv / ret", lots, lots, nil, api.EndDone, "nil", 5, 3},
		{"chan 1 / dup / int 4 / send / dup / shut / recv / ret", lots, lots, nil, api.EndDone, "4", 8, 3},
		{"chan 1 / dup / dup / dup / send / ret", lots, lots, nil, api.EndDone, "chan(1)", 6, 3},
		// Whoever comes next.
		{"yield / nil / ret", lots, lots, nil, api.EndDone, "nil", 3, 0},
		{"yield / chan 1 / yield / recv / ret", lots, lots, nil, api.EndStuck, "", 3, 3},
		{"func f / spawn 0 / nil / ret / func f 0 0 / l: / jump l", lots, lots, nil, api.EndDone, "nil", 4, 8}, // main's end is the machine's
		{"func f / spawn 0 / yield / nil / ret / func f 0 0 / nil / throw", lots, lots, nil, api.EndThrown, "nil", 5, 8},
		{"from: / func f / spawn 0 / yield / to: / nil / ret / l: / ret / handler from to l 0 / func f 0 0 / nil / throw", lots, lots, nil, api.EndThrown, "nil", 5, 8}, // main's handler is not f's
		{"func f / spawn 0 / l: / yield / jump l / func f 0 0 / nil / ret", 9, lots, nil, api.EndFuel, "", 9, 8},
		{"func f / spawn 0 / chan 1 / recv / ret / func f 0 0 / nil / ret", lots, lots, nil, api.EndStuck, "", 5, 11},
		{"func f / spawn 0 / chan 1 / recv / ret / func f 0 0 / chan 1 / recv / ret", lots, lots, nil, api.EndStuck, "", 4, 14},
	} {
		comesTo(t, c)
	}
}

// The texts of ends are those of the values, whatever their kind.
func TestEndTexts(t *testing.T) {
	for _, c := range []struct{ code, text string }{
		{"nil", "nil"}, {"true", "true"}, {"false", "false"}, {"int -7", "-7"}, {"const 0", "a\x00"}, {"const 1", "1.5"}, {"func g", "func(g)"},
		{"nil / nil / array 2", "array(2)"}, {"record", "record(0)"}, {"func g / nil / bind 1", "bound(g)"}, {"chan 3", "chan(0)"}, {"read", "in"}, {"read / pop / read", "nil"},
	} {
		for _, last := range []string{"ret", "throw"} {
			text := "const text \"a\\x00\" / const real 1.5 / func main 0 0 / " + c.code + " / " + last + " / func g 1 1 / nil / ret"
			m := fresh(t, parsed(t, strings.ReplaceAll(text, " / ", "\n")), 99, 99, "in")
			m.Run(99)
			if want := (api.End{Kind: map[string]int{"ret": api.EndDone, "throw": api.EndThrown}[last], Text: c.text}); m.End() != want {
				t.Errorf("%s: %v", text, m.End())
			}
		}
	}
	m := fresh(t, parsed(t, "func main 0 0\nchan 2\ndup\nnil\nsend\nret"), 99, 99)
	if m.Run(99); m.End() != (api.End{Kind: api.EndDone, Text: "chan(1)"}) {
		t.Error(m.End())
	}
}

// Fibers take turns in the order of their numbers and round; those that have ended or wait are passed over.
func TestTurns(t *testing.T) {
	p := parsed(t, strings.ReplaceAll(`func main 0 1 / chan 1 / store 0
func say / int 1 / spawn 1
func wait / load 0 / spawn 1
func say / int 3 / spawn 1
func brief / spawn 0
int 0 / print / yield / int 0 / print / yield
load 0 / int 9 / send
int 0 / print / yield / int 0 / print / yield / nil / ret
func say 1 1 / l: / load 0 / print / yield / jump l
func wait 1 1 / load 0 / recv / print / int 2 / print / yield / int 2 / print / nil / ret
func brief 0 0 / int 4 / print / nil / ret`, " / ", "\n"))
	m := fresh(t, p, 999, 999)
	m.Run(999)
	want := strings.Fields("0 1 3 4 0 1 3 0 1 9 2 3 0 1 2 3")
	if !slices.Equal(m.Out(), want) || m.End() != (api.End{Kind: api.EndDone, Text: "nil"}) {
		t.Errorf("printed %q, %v", m.Out(), m.End())
	}
}

// A fiber that spawns goes on; whom it spawned has the next number.
func TestSpawn(t *testing.T) {
	p := parsed(t, "func main 0 0\ntrue\nfunc f\nint 1\nint 2\nspawn 2\nret\nfunc f 2 4\nload 0\nret")
	m := fresh(t, p, 99, 99)
	m.Run(5)
	want := []api.Fiber{fiber(frame(0, 5, val(api.Bool, 1))), fiber(frame(1, 0, whole(1), whole(2), api.Value{}, api.Value{}))}
	if s := m.State(); !slices.EqualFunc(s.Fibers, want, sameFiber) || s.Current != 0 || s.Spent != 8 || s.Steps != 5 {
		t.Errorf("%+v", s)
	}
}

// P17.3: long runs of programs from their beginning on, and from states on, step by step. They come to all ends: else this would say little.
func TestRuns(t *testing.T) {
	ends := map[int]int{}
	for seed := range int64(900) {
		r := rand.New(rand.NewSource(seed))
		p := drawnProgram(r, 25)
		l := api.Limits{Fuel: r.Intn(250), Budget: r.Intn(400)}
		input := drawnInput(r)
		m, d := fresh(t, p, l.Fuel, l.Budget, input...), freshModel(p, l, input)
		if seed%3 > 0 {
			s := drawnState(r, p, factsOf(t, p))
			m, d = loaded(t, p, l, input, s), loadedModel(p, l, input, s)
		}
		d.held(t, m)
		for d.stepped(t, m) {
		}
		if m.End().Kind == api.EndNone {
			t.Fatal("a step was not made, and it has not ended")
		}
		d.stepped(t, m)
		ends[m.End().Kind]++
	}
	for kind := api.EndDone; kind <= api.EndStuck; kind++ {
		if ends[kind] < 20 {
			t.Error("too few ends", ends)
		}
	}
}

// around is a program in which the instruction stands in function 1, and where; a handler holds it, or none.
func around(i api.Instr, takes, puts int, handled bool) (api.Program, int) {
	var l []api.Instr
	for range takes + 1 {
		l = append(l, ins(api.OpNil))
	}
	at := len(l)
	l = append(l, i)
	for range puts {
		l = append(l, ins(api.OpPop))
	}
	l = append(l, ins(api.OpYield), ins(api.OpRet))
	f := api.Function{Name: "f", Params: 2, Locals: 3, Code: l}
	if handled {
		f.Handlers = []api.Handler{{From: at, To: at + 1, Target: len(l), Height: 1}}
		f.Code = append(f.Code, ins(api.OpPop), ins(api.OpRet))
	}
	main := api.Function{Name: "main", Locals: 1, Code: []api.Instr{ins(api.OpFunc, 1), ins(api.OpNil), ins(api.OpNil), ins(api.OpCall, 2), ins(api.OpRet), ins(api.OpRet)}, Handlers: []api.Handler{{From: 3, To: 4, Target: 5}}}
	g := api.Function{Name: "g", Params: 1, Locals: 4, Code: []api.Instr{ins(api.OpLoad, 0), ins(api.OpRecv), ins(api.OpRet)}}
	return api.Program{Consts: consts(), Funcs: []api.Function{main, f, g}}, at
}

// Every operation on fibers, of values of all kinds, among fibers in all plights, up to as many as there may be; where steps are left and where none is; where there is room, and where it is short.
func TestEveryOperation(t *testing.T) {
	for _, c := range []struct {
		i           api.Instr
		takes, puts int
	}{
		{ins(api.OpSpawn, 0), 1, 0}, {ins(api.OpSpawn, 1), 2, 0}, {ins(api.OpSpawn, 2), 3, 0}, {ins(api.OpSpawn, 3), 4, 0},
		{ins(api.OpYield), 0, 0}, {ins(api.OpSend), 2, 0}, {ins(api.OpRecv), 1, 1},
	} {
		t.Run(fmt.Sprint(c.i), func(t *testing.T) {
			t.Parallel()
			for seed := range int64(500) {
				r := rand.New(rand.NewSource(seed))
				p, at := around(c.i, c.takes, c.puts, seed%2 == 0)
				f := factsOf(t, p)
				s := drawnState(r, p, f)
				mk := maker{r: r, p: p, f: f, s: s}
				l := s.Fibers[s.Current].Frames
				l[len(l)-1] = mk.at(1, at)
				input := drawnInput(r)
				limits := api.Limits{Fuel: max(0, s.Steps-1+r.Intn(4)), Budget: max(0, s.Spent+r.Intn(11)-1)}
				m, err := Load(p, limits, input, s)
				if err != api.OK {
					continue // it is blocked there
				}
				d := loadedModel(p, limits, input, s)
				for range 3 {
					d.stepped(t, m)
				}
			}
		})
	}
}

// P17.4: Run makes as many steps as are asked for, if there are so many.
func TestRunCounts(t *testing.T) {
	p := parsed(t, "func main 0 0\nl:\nnop\njump l")
	for _, n := range append(edges(), 4, 5, 6, 7) {
		m := fresh(t, p, 5, 0)
		want, end := min(max(n, 0), 5), api.EndNone
		if n > 5 {
			end = api.EndFuel
		}
		if got := m.Run(n); got != want || m.Report().Steps != want || m.End().Kind != end {
			t.Errorf("Run(%d) is %d, %+v", n, got, m.Report())
		}
	}
}

// P17.5: what is told of steps, of what is spent and printed, of a machine that was loaded.
func TestReportOfLoaded(t *testing.T) {
	p := parsed(t, "func main 0 0\nl:\nint 5\nprint\njump l")
	s := api.State{Fibers: []api.Fiber{fiber(frame(0, 0))}, Steps: 40, Spent: 30, Read: 3}
	m := loaded(t, p, api.Limits{Fuel: 44, Budget: 34}, nil, s)
	if r := m.Report(); !sameReport(r, api.Report{Steps: 40, Spent: 30}) {
		t.Errorf("%+v", r)
	}
	if n := m.Run(99); n != 4 || !sameReport(m.Report(), api.Report{Out: []string{"5"}, End: api.End{Kind: api.EndFuel}, Steps: 44, Spent: 32}) {
		t.Errorf("%d, %+v", n, m.Report())
	}
	for _, c := range []struct {
		l    api.Limits
		end  int
		made int
	}{
		{api.Limits{Fuel: 39, Budget: 99}, api.EndFuel, 0},
		{api.Limits{Fuel: 40, Budget: 99}, api.EndFuel, 0},
		{api.Limits{Fuel: 99, Budget: 29}, api.EndHeap, 1},
		{api.Limits{Fuel: 99, Budget: 31}, api.EndHeap, 1},
		{api.Limits{Fuel: 99, Budget: 33}, api.EndHeap, 4},
	} {
		m := loaded(t, p, c.l, nil, s)
		if n := m.Run(99); n != c.made || m.End() != (api.End{Kind: c.end}) || m.Report().Spent < 30 {
			t.Errorf("%+v: %d, %+v", c.l, n, m.Report())
		}
	}
}
