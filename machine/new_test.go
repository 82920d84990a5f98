package machine

import (
	"math/rand"
	"slices"
	"strings"
	"testing"

	"portage/api"
	"portage/base"
	"portage/states"
)

// P17.1: a machine begins with main's frame alone, and with nothing done.
func TestBeginning(t *testing.T) {
	for _, locals := range []int{0, 1, 2, 63, 64} {
		p := api.Program{Consts: consts(), Funcs: []api.Function{
			{Name: "main", Locals: locals, Code: []api.Instr{ins(api.OpNil), ins(api.OpRet)}},
			{Name: "g", Params: 1, Locals: 1, Code: []api.Instr{ins(api.OpNil), ins(api.OpRet)}},
		}}
		m := fresh(t, p, 9, 9, "in")
		main := frame(0, 0, make([]api.Value, locals)...)
		if s := m.State(); !sameState(s, api.State{Fibers: []api.Fiber{fiber(main)}}) {
			t.Errorf("%d locals: %+v", locals, s)
		}
		if f, n := m.Top(); n != 1 || !sameFrame(f, main) {
			t.Error("Top", f, n)
		}
		if r := m.Report(); !sameReport(r, api.Report{}) || m.End() != (api.End{}) || len(m.Out()) != 0 || m.Safe() {
			t.Errorf("%+v", r)
		}
	}
	if m := fresh(t, parsed(t, "func main 0 0\nl:\njump l"), 0, 0); !m.Safe() || m.End() != (api.End{}) {
		t.Error("a machine without fuel has ended ahead of its first step", m.End())
	}
}

// spoilt are all that New can find fault with, but for the first: none.
func spoilt() (limits []api.Limits, inputs [][]string, codes [][]api.Instr) {
	limits = []api.Limits{{Fuel: 5, Budget: 5}, {Fuel: -1}, {Fuel: api.MaxFuel + 1}, {Budget: -1}, {Budget: api.MaxBudget + 1}}
	inputs = [][]string{{"in"}, make([]string, api.MaxInput+1), {"", strings.Repeat("a", api.MaxText+1)}}
	codes = [][]api.Instr{{ins(api.OpNil), ins(api.OpRet)}, {ins(api.OpRet)}, {ins(api.OpNil)}, {ins(99)}, {ins(api.OpLoad, 3), ins(api.OpRet)}, nil}
	return limits, inputs, codes
}

// P17.1, P17.2: the errors are base.New's, of these in their order; then comes the state.
func TestErrors(t *testing.T) {
	limits, inputs, codes := spoilt()
	for i, l := range limits {
		for j, input := range inputs {
			for k, code := range codes {
				p := api.Program{Funcs: []api.Function{{Name: "main", Code: code}}}
				_, want := base.New(p, l, input, api.State{})
				if (want == api.OK) != (i+j+k == 0) {
					t.Fatal("no fault", i, j, k)
				}
				if m, err := New(p, l, input); err != want || (m == nil) != (err != api.OK) {
					t.Errorf("New, faults %d %d %d: %v, not %v", i, j, k, err, want)
				}
				good := api.State{Fibers: []api.Fiber{fiber(frame(0, 0))}}
				if m, err := Load(p, l, input, good); err != want || (m == nil) != (err != api.OK) {
					t.Errorf("Load, faults %d %d %d: %v, not %v", i, j, k, err, want)
				}
				if want == api.OK {
					want = api.ErrState
				}
				for n, bad := range []api.State{{}, {Steps: -1}, {Fibers: []api.Fiber{fiber(frame(0, 1))}}, {Texts: []string{"", ""}, Fibers: good.Fibers}} {
					if m, err := Load(p, l, input, bad); err != want || m != nil {
						t.Errorf("Load of state %d, faults %d %d %d: %v, not %v", n, i, j, k, err, want)
					}
				}
			}
		}
	}
	p := parsed(t, "func main 0 0\nnil\nret")
	if _, err := New(p, api.Limits{Fuel: api.MaxFuel, Budget: api.MaxBudget}, make([]string, api.MaxInput)); err != api.OK {
		t.Error("the greatest limits", err)
	}
}

// wrong changes one thing of a state.
func wrong(r *rand.Rand, s *api.State) {
	number := func() int { return append(edges(), 4, 5, 6, 7, 8, 99, 100)[r.Intn(len(edges())+7)] }
	f := &s.Fibers[r.Intn(len(s.Fibers))]
	var top *api.Frame
	if n := len(f.Frames); n > 0 {
		top = &f.Frames[r.Intn(n)]
	}
	switch k := r.Intn(12); {
	case k == 0:
		s.Current = number()
	case k == 1:
		s.Steps = number()
	case k == 2:
		s.Spent = number()
	case k == 3:
		s.Read = number()
	case k == 4:
		s.Fibers = s.Fibers[:r.Intn(len(s.Fibers))]
	case k == 5:
		s.Fibers = append(s.Fibers, s.Fibers...)
	case k == 6:
		s.Fibers[r.Intn(len(s.Fibers))] = api.Fiber{}
	case k == 7 && len(s.Texts) > 0:
		s.Texts[r.Intn(len(s.Texts))] = s.Texts[0]
	case k == 8 && len(s.Objects) > 0:
		o := &s.Objects[r.Intn(len(s.Objects))]
		*[]*int{&o.Kind, &o.Cap, &o.Fn}[r.Intn(3)] = number()
	case top == nil:
	case k == 9 && len(top.Slots) > 0:
		top.Slots[r.Intn(len(top.Slots))] = val(r.Intn(12)-1, int64(number()))
	case k == 10:
		top.Slots = top.Slots[:r.Intn(len(top.Slots)+1)]
	default:
		*[]*int{&top.Fn, &top.PC}[r.Intn(2)] = number()
	}
}

// P17.2: Load takes just the states that states.Check takes, and is a machine there that has printed nothing.
func TestLoad(t *testing.T) {
	taken, refused := 0, 0
	for seed := range int64(3000) {
		r := rand.New(rand.NewSource(seed))
		p := drawnProgram(r, 12)
		f := factsOf(t, p)
		s := drawnState(r, p, f)
		for range r.Intn(3) {
			if len(s.Fibers) > 0 {
				wrong(r, &s)
			}
		}
		want := states.Check(p, f, s)
		m, err := Load(p, api.Limits{Fuel: r.Intn(20), Budget: r.Intn(20)}, nil, s)
		if err != want || (m == nil) != (err != api.OK) {
			t.Fatalf("%v, not %v: %+v", err, want, s)
		}
		if err != api.OK {
			refused++
			continue
		}
		taken++
		if got := m.State(); !sameState(got, states.Canon(s)) {
			t.Fatalf("%+v became %+v", s, got)
		}
		if r := m.Report(); !sameReport(r, api.Report{Steps: s.Steps, Spent: s.Spent}) || len(m.Out()) > 0 {
			t.Fatalf("%+v", r)
		}
		l := s.Fibers[s.Current].Frames
		if top, n := m.Top(); n != len(l) || !sameFrame(top, l[n-1]) || m.Safe() != states.Safe(p, s) {
			t.Fatalf("Top is %v of %d in %+v", top, n, s)
		}
	}
	if taken < 1000 || refused < 1000 {
		t.Error(taken, "taken,", refused, "refused")
	}
}

// A state in which the current fiber is blocked is none; in which another one is, is one.
func TestLoadBlocked(t *testing.T) {
	p := parsed(t, "func main 0 0\nchan 1\nrecv\nret")
	open := []api.Object{{Kind: api.Chan, Cap: 1}}
	waits, begins := fiber(frame(0, 1, val(api.Chan, 0))), fiber(frame(0, 0))
	limits := api.Limits{Fuel: 9, Budget: 9}
	if m, err := Load(p, limits, nil, api.State{Objects: open, Fibers: []api.Fiber{waits, begins}}); err != api.ErrState || m != nil {
		t.Error("blocked", err)
	}
	m := loaded(t, p, limits, nil, api.State{Objects: open, Fibers: []api.Fiber{waits, begins}, Current: 1})
	if n := m.Run(9); n != 1 || m.End() != (api.End{Kind: api.EndStuck}) {
		t.Error(n, m.End())
	}
	for _, o := range []api.Object{{Kind: api.Chan, Cap: 1, Shut: true}, {Kind: api.Chan, Cap: 1, Items: vals(whole(3))}} {
		m := loaded(t, p, limits, nil, api.State{Objects: []api.Object{o}, Fibers: []api.Fiber{waits, begins}})
		want := map[bool]string{true: "nil", false: "3"}[o.Shut]
		if n := m.Run(9); n != 2 || m.End() != (api.End{Kind: api.EndDone, Text: want}) {
			t.Error(n, m.End())
		}
	}
}

// The texts of constants lie behind those of the state.
func TestTextsOfLoaded(t *testing.T) {
	p := parsed(t, "const text \"a\"\nconst text \"b\"\nfunc main 0 1\nconst 0\nret")
	s := api.State{Texts: []string{"z", "b"}, Fibers: []api.Fiber{fiber(frame(0, 0, txt(1)))}}
	m := loaded(t, p, api.Limits{Fuel: 9}, nil, s)
	m.Step()
	if f, _ := m.Top(); !sameFrame(f, frame(0, 1, txt(1), txt(2))) || !slices.Equal(m.Core().World().Texts.Items(), []string{"z", "b", "a"}) {
		t.Error("Top", f)
	}
	if got := m.State(); !slices.Equal(got.Texts, []string{"b", "a"}) || !sameFiber(got.Fibers[0], fiber(frame(0, 1, txt(0), txt(1)))) {
		t.Errorf("%+v", got)
	}
}
