package base

import (
	"math/rand"
	"reflect"
	"slices"
	"strings"
	"testing"

	"portage/api"
	"portage/verify"
)

func simple() api.Program { return alone(0, list(ins(api.OpNil), ins(api.OpRet))) }

// refused asks for a core that there is not.
func refused(t *testing.T, what string, p api.Program, l api.Limits, input []string, s api.State, want api.Errno) {
	t.Helper()
	if c, err := New(p, l, input, s); err != want || c != nil {
		t.Errorf("%s: %v, %v; not %v", what, c, err, want)
	}
}

// P16.1: the limits, the counts, the input and the texts have their bounds, and what is just at one is taken.
func TestBounds(t *testing.T) {
	p := simple()
	for _, c := range []struct {
		n, most int
		where   func(l *api.Limits, s *api.State) *int
		err     api.Errno
	}{
		{most: api.MaxFuel, where: func(l *api.Limits, s *api.State) *int { return &l.Fuel }, err: api.ErrArg},
		{most: api.MaxBudget, where: func(l *api.Limits, s *api.State) *int { return &l.Budget }, err: api.ErrArg},
		{most: api.MaxFuel, where: func(l *api.Limits, s *api.State) *int { return &s.Steps }, err: api.ErrState},
		{most: api.MaxBudget, where: func(l *api.Limits, s *api.State) *int { return &s.Spent }, err: api.ErrState},
		{most: api.MaxInput, where: func(l *api.Limits, s *api.State) *int { return &s.Read }, err: api.ErrState},
	} {
		for _, n := range append(edges(), 999, 1000, 1001, c.most-1, c.most, c.most+1) {
			var l api.Limits
			var s api.State
			*c.where(&l, &s) = n
			if n < 0 || n > c.most {
				refused(t, "a count", p, l, nil, s, c.err)
				continue
			}
			k := loaded(t, p, l, nil, s)
			if k.Steps() != s.Steps || k.Read() != s.Read || k.World().Heap.Spent() != s.Spent || k.Left() != max(0, l.Fuel-s.Steps) {
				t.Errorf("%+v, %+v: %d steps, %d read, %d left", l, s, k.Steps(), k.Read(), k.Left())
			}
			if most := max(0, l.Budget-s.Spent); l.Budget >= s.Spent && (!k.World().Heap.Spend(most) || k.World().Heap.Spend(1)) {
				t.Errorf("%+v, %+v: not room for %d", l, s, most)
			}
		}
	}
	longest, longer := strings.Repeat("a", api.MaxText), strings.Repeat("a", api.MaxText+1)
	loaded(t, p, api.Limits{}, []string{longest, "", longest}, api.State{Texts: []string{"", longest}})
	loaded(t, p, api.Limits{}, make([]string, api.MaxInput), api.State{Read: api.MaxInput})
	refused(t, "a long input", p, api.Limits{}, make([]string, api.MaxInput+1), api.State{}, api.ErrMany)
	refused(t, "a long text", p, api.Limits{}, []string{"", longer}, api.State{}, api.ErrMany)
	refused(t, "a long first text", p, api.Limits{}, []string{longer, ""}, api.State{}, api.ErrMany)
	refused(t, "a long text of the state", p, api.Limits{}, nil, api.State{Texts: []string{"", longer}}, api.ErrState)
}

// P16.1: a program that verify.Program refuses has its error.
func TestRefusedPrograms(t *testing.T) {
	programs := []api.Program{
		{},
		alone(0, nil),
		alone(0, list(ins(api.OpRet))),
		alone(0, list(ins(api.OpNil))),
		alone(65, list(ins(api.OpNil), ins(api.OpRet))),
		alone(0, list(ins(api.OpConst, 77), ins(api.OpRet))),
		alone(0, list(ins(99), ins(api.OpRet))),
		alone(0, list(ins(api.OpNil), ins(api.OpRet)), api.Handler{From: 1, To: 1}),
	}
	twice := simple()
	twice.Funcs = append(twice.Funcs, twice.Funcs[0])
	for k, p := range append(programs, twice) {
		_, _, want := verify.Program(p)
		if want == api.OK {
			t.Fatal("program", k, "is verified")
		}
		refused(t, "a program", p, api.Limits{}, nil, api.State{}, want)
	}
}

// P16.1: what is wrong with a state; its fibers and the current one are not looked at.
func TestRefusedStates(t *testing.T) {
	p := simple()
	record := func(keys ...int64) api.Object {
		return api.Object{Kind: api.Record, Keys: keys, Items: make([]api.Value, len(keys))}
	}
	two := []string{"a", ""}
	for k, s := range []api.State{
		{Texts: []string{"a", "a"}},
		{Texts: []string{"", "b", ""}},
		{Texts: two, Objects: []api.Object{{}}},
		{Texts: two, Objects: []api.Object{{Kind: api.Array, Fn: 1}}},
		{Texts: two, Objects: []api.Object{{Kind: api.Array, Items: vals(val(api.Array, 1))}}},
		{Texts: two, Objects: []api.Object{{Kind: api.Chan}}},
		{Texts: two, Objects: []api.Object{record(-1)}},
		{Texts: two, Objects: []api.Object{record(2)}},
		{Texts: two, Objects: []api.Object{record(0, 1), record(1, 0, 2)}},
		{Texts: two, Objects: []api.Object{record(1 << 40)}},
		{Objects: []api.Object{record(0)}}, // the program's constants are none of the state's texts
		{Texts: two, Objects: []api.Object{record(1, 1)}},
	} {
		refused(t, "state "+string(rune('a'+k)), p, api.Limits{}, nil, s, api.ErrState)
	}
	for _, s := range []api.State{
		{Texts: two, Objects: []api.Object{record(0, 1), record(), record(1)}},
		{Texts: two, Fibers: []api.Fiber{{Frames: []api.Frame{{Fn: -7, PC: 99}}}}, Current: -5},
		{Current: 1 << 40},
		{Objects: []api.Object{{Kind: api.Array, Items: vals(txt(9), val(api.Func, 9))}, {Kind: api.Bound, Fn: 9}}}, // as heap.Load has it
	} {
		c := loaded(t, p, api.Limits{}, nil, s)
		if got := stateOf(c); !slices.EqualFunc(got.Objects, s.Objects, sameObject) || !slices.Equal(got.Texts[:len(s.Texts)], s.Texts) {
			t.Errorf("%+v became %+v", s, got)
		}
	}
}

// P16.1: of several errors the one that is named first.
func TestFirstError(t *testing.T) {
	long := []string{strings.Repeat("a", api.MaxText+1)}
	for fuel := range 2 {
		for budget := range 2 {
			for input := range 3 {
				for program := range 2 {
					for state := range 2 {
						l := api.Limits{Fuel: -fuel, Budget: budget * (api.MaxBudget + 1)}
						p := [2]api.Program{simple(), alone(0, list(ins(api.OpRet)))}[program]
						texts := [3][]string{nil, long, make([]string, 1001)}[input]
						want := api.OK
						switch {
						case fuel+budget > 0:
							want = api.ErrArg
						case input > 0:
							want = api.ErrMany
						case program > 0:
							want = api.ErrHeight
						case state > 0:
							want = api.ErrState
						}
						if c, err := New(p, l, texts, api.State{Steps: -state}); err != want || (c == nil) != (err != api.OK) {
							t.Errorf("%+v, input %d, program %d, state %d: %v, not %v", l, input, program, state, err, want)
						}
					}
				}
			}
		}
	}
}

// The world of a core, its constants and its facts (P16.7), over programs and states that are right.
func TestWorlds(t *testing.T) {
	r := rand.New(rand.NewSource(161))
	for range 500 {
		p := drawnProgram(r, 12)
		f := factsOf(t, p)
		s := drawnState(r, p, f)
		l := api.Limits{Fuel: r.Intn(9), Budget: r.Intn(9)}
		input := drawnInput(r)
		c := loaded(t, p, l, input, s)
		newModel(p, l, input, s).held(t, c)
		if !reflect.DeepEqual(c.World().Program, p) || c.World() != c.World() {
			t.Fatal("the world's program is", c.World().Program)
		}
		if got := c.Facts(); !reflect.DeepEqual(got, f) {
			t.Fatal("facts", got, "not", f)
		}
		if len(c.Out()) != 0 {
			t.Fatal("printed", c.Out())
		}
	}
}

// The texts of constants lie behind the state's, in their order, each once.
func TestConstants(t *testing.T) {
	p := simple()
	p.Consts = []api.Const{{Kind: api.Text, Text: "b"}, {Kind: api.Text, Text: "a"}, {Kind: api.Real, N: 0x7FF8000000000000}, {Kind: api.Text, Text: "c"}, {Kind: api.Text}, {Kind: api.Real}}
	c := loaded(t, p, api.Limits{}, nil, api.State{Texts: []string{"z", "c"}})
	if got := c.World().Texts.Items(); !slices.Equal(got, []string{"z", "c", "b", "a", ""}) {
		t.Errorf("texts %q", got)
	}
	if got := c.Consts(); !slices.Equal(got, vals(txt(2), txt(3), val(api.Real, 0x7FF8000000000000), txt(1), txt(4), val(api.Real, 0))) {
		t.Error("constants", got)
	}
	p.Consts = nil
	if c := begun(t, p, 0, 0); len(c.Consts()) != 0 || c.World().Texts.Len() != 0 {
		t.Error("without constants", c.Consts(), c.World().Texts.Items())
	}
}
