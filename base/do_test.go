package base

import (
	"fmt"
	"math"
	"math/rand"
	"slices"
	"testing"

	"portage/api"
	"portage/code"
	"portage/ops"
)

// told is what an answer was.
func told(v api.Value, trap int, room bool) string {
	return fmt.Sprintf("%v, trap %d, %v", v, trap, room)
}

// done does an operation in a core and in its model, and holds them against each other.
func (m *model) done(t testing.TB, c *Core, i api.Instr, args []api.Value) {
	t.Helper()
	was := slices.Clone(args)
	want := told(m.do(i, args))
	if got := told(c.Do(i, args)); got != want || !slices.Equal(args, was) {
		t.Fatalf("%v of %v: %s, not %s", i, was, got, want)
	}
	m.held(t, c)
}

// anyValue is a value that may be anything.
func anyValue(r *rand.Rand, m *maker) api.Value {
	if r.Intn(4) > 0 {
		return m.value()
	}
	return val(r.Intn(13)-1, int64(edges()[r.Intn(len(edges()))]))
}

// P16.3: all operations, of values that may be anything, with room and where it is short, one behind the other in one core.
func TestDo(t *testing.T) {
	l := every()
	for seed := range int64(300) {
		r := rand.New(rand.NewSource(seed))
		p := drawnProgram(r, 5)
		s := drawnState(r, p, factsOf(t, p))
		lim := api.Limits{Fuel: r.Intn(3), Budget: r.Intn(200)}
		input := drawnInput(r)
		c, m := loaded(t, p, lim, input, s), newModel(p, lim, input, s)
		for range 60 {
			i := l[r.Intn(len(l))]
			if r.Intn(4) == 0 {
				i = ins([]int{api.OpPrint, api.OpRead}[r.Intn(2)])
			}
			if i.Op != api.OpPrint && i.Op != api.OpRead && !ops.Applies(i.Op) {
				continue
			}
			takes, _, _ := code.Effect(i)
			w := worldly(r, c)
			var args []api.Value
			for range takes {
				// What is kept must be right, so that a world can be made anew of what lies there.
				if ops.Pure(i.Op) || i.Op == api.OpPrint || i.Op <= api.OpCut {
					args = append(args, anyValue(r, w))
				} else {
					args = append(args, w.value())
				}
			}
			m.done(t, c, i, args)
		}
	}
}

// P16.3: what is none of these operations, no instruction, or asked with another number of values is answered by false, and changes nothing.
func TestDoesNot(t *testing.T) {
	p := simple()
	s := api.State{Texts: []string{"a"}, Objects: []api.Object{{Kind: api.Array, Items: vals(whole(1))}, {Kind: api.Record}}}
	lim := api.Limits{Fuel: 9, Budget: 999}
	c, m := loaded(t, p, lim, []string{"in"}, s), newModel(p, lim, []string{"in"}, s)
	none := func(i api.Instr, args []api.Value) {
		t.Helper()
		if got := told(c.Do(i, args)); got != told(api.Value{}, 0, false) {
			t.Errorf("%v of %v: %s", i, args, got)
		}
		m.held(t, c)
	}
	some := vals(val(api.Array, 0), whole(0), whole(0), txt(0))
	for op := -3; op < api.Ops+3; op++ {
		for a := int64(-1); a < 4; a++ {
			i := ins(op, a)
			takes, _, is := code.Effect(i)
			for n := range len(some) + 1 {
				if !is || takes != n || op != api.OpPrint && op != api.OpRead && !ops.Applies(op) {
					none(i, some[:n])
				}
			}
		}
	}
	for _, op := range []int{math.MinInt, math.MaxInt, api.OpPrint + 1<<32} {
		none(ins(op), some[:1])
	}
	for _, a := range []int64{1, -1, math.MinInt64, math.MaxInt64, 1 << 32} {
		none(ins(api.OpPrint, a), some[:1])
		none(ins(api.OpRead, a), nil)
	}
	none(ins(api.OpGetf, 1), vals(val(api.Record, 1))) // a constant that is no text
	none(ins(api.OpGetf, 500), vals(val(api.Record, 1)))
}

// P16.3: what print and read need: 1 and the text's bytes, no less; a nil that is read needs nothing, also where more is spent than there is.
func TestRoomOfPrintAndRead(t *testing.T) {
	p := alone(0, list(ins(api.OpRead), ins(api.OpPrint), ins(api.OpNil), ins(api.OpRet)))
	for _, text := range []string{"", "a", "abc", "\x00\xff"} {
		cost := 1 + len(text)
		for left := -2; left <= cost+1; left++ {
			s := api.State{Spent: 5, Texts: []string{text}}
			lim := api.Limits{Fuel: 9, Budget: 5 + left}
			c, m := loaded(t, p, lim, []string{text}, s), newModel(p, lim, []string{text}, s)
			if _, trap, room := c.Do(ins(api.OpPrint), vals(txt(0))); trap != 0 || room != (left >= cost) || len(c.Out()) > 0 != room {
				t.Errorf("print %q with %d left: %v", text, left, room)
			}
			m.do(ins(api.OpPrint), vals(txt(0)))
			m.held(t, c)
			c, m = loaded(t, p, lim, []string{text}, s), newModel(p, lim, []string{text}, s)
			v, trap, room := c.Do(ins(api.OpRead), nil)
			if trap != 0 || room != (left >= cost) || room && v != txt(0) || c.Read() > 0 != room {
				t.Errorf("read %q with %d left: %v, %v", text, left, v, room)
			}
			m.do(ins(api.OpRead), nil)
			m.held(t, c)
			s.Read = 1
			c, m = loaded(t, p, lim, []string{text}, s), newModel(p, lim, []string{text}, s)
			if got := told(c.Do(ins(api.OpRead), nil)); got != told(api.Value{}, 0, true) {
				t.Errorf("nothing to read, with %d left: %s", left, got)
			}
			m.held(t, c)
		}
	}
}

// What is read comes in its order, from where the state is; texts that are there keep their numbers; behind the end, and far behind it, nil.
func TestReadsInOrder(t *testing.T) {
	input := []string{"one", "x", "two", "one", ""}
	p := alone(0, list(ins(api.OpNil), ins(api.OpRet)))
	for from := range 9 {
		c := loaded(t, p, api.Limits{Budget: 99}, input, api.State{Read: from})
		for k := from; k < 9; k++ {
			v, trap, room := c.Do(ins(api.OpRead), nil)
			text, is := c.World().Texts.At(int(v.N))
			if trap != 0 || !room || k < len(input) && (v.Kind != api.Text || !is || text != input[k]) || k >= len(input) && v != (api.Value{}) {
				t.Errorf("from %d, text %d: %v %q", from, k, v, text)
			}
			if want := max(from, min(k+1, len(input))); c.Read() != want {
				t.Errorf("from %d, behind %d: %d read", from, k, c.Read())
			}
		}
	}
}

// What is printed is each value's text, in order.
func TestPrints(t *testing.T) {
	p := simple()
	s := api.State{Texts: []string{"a\x00"}, Objects: []api.Object{{Kind: api.Array, Items: vals(whole(1), whole(2))}, {Kind: api.Record}, {Kind: api.Bound}, {Kind: api.Chan, Cap: 2, Items: vals(whole(1))}}}
	c := loaded(t, p, api.Limits{Budget: 999}, nil, s)
	l := vals(api.Value{}, val(api.Bool, 0), val(api.Bool, 1), whole(-7), val(api.Real, 0x3FF8000000000000), txt(0), val(api.Func, 0), val(api.Array, 0), val(api.Record, 1), val(api.Bound, 2), val(api.Chan, 3), val(77, 0), txt(99), val(api.Array, 3))
	for _, v := range l {
		if got := told(c.Do(ins(api.OpPrint), vals(v))); got != told(api.Value{}, 0, true) {
			t.Errorf("print of %v: %s", v, got)
		}
	}
	want := []string{"nil", "false", "true", "-7", "1.5", "a\x00", "func(main)", "array(2)", "record(0)", "bound(main)", "chan(1)", "", "", "array()"}
	if !slices.Equal(c.Out(), want) {
		t.Errorf("printed %q", c.Out())
	}
}

// P16.5: each trap's name is a text of the world, once; what is no trap has the empty name.
func TestTrapText(t *testing.T) {
	for _, budget := range []int{0, 9} {
		p := simple()
		p.Consts = []api.Const{{Kind: api.Text, Text: "deep"}}
		c := loaded(t, p, api.Limits{Budget: budget}, nil, api.State{Texts: []string{"key", "z"}, Spent: 4})
		texts := []string{"key", "z", "deep"}
		for range 2 {
			for _, trap := range append(edges(), 4, 5, 6, 7, 8, 9, 10, 11) {
				name := ops.TrapName(trap)
				if !slices.Contains(texts, name) {
					texts = append(texts, name)
				}
				if v := c.TrapText(trap); v != txt(int64(slices.Index(texts, name))) {
					t.Errorf("trap %d: %v", trap, v)
				}
			}
		}
		if !slices.Equal(c.World().Texts.Items(), texts) || c.World().Heap.Spent() != 4 || c.Steps() != 0 {
			t.Error("behind it", c.World().Texts.Items(), c.World().Heap.Spent())
		}
	}
}

// P16.6: so many steps are counted, if as many are left; Left is never below 0.
func TestPay(t *testing.T) {
	for _, fuel := range []int{0, 1, 5, api.MaxFuel} {
		for _, steps := range []int{0, 1, 4, 5, 6, api.MaxFuel} {
			for _, n := range append(edges(), 4, 5, 6, api.MaxFuel-1, api.MaxFuel, api.MaxFuel+1) {
				c := loaded(t, simple(), api.Limits{Fuel: fuel}, nil, api.State{Steps: steps})
				want := n >= 0 && n <= api.MaxFuel && steps+n <= fuel
				now := steps
				if want {
					now += n
				}
				if got := c.Pay(n); got != want || c.Steps() != now || c.Left() != max(0, fuel-now) {
					t.Errorf("Pay(%d) behind %d of %d: %v, %d steps, %d left", n, steps, fuel, got, c.Steps(), c.Left())
				}
			}
		}
	}
}
