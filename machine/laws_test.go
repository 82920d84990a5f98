package machine

import (
	"math/rand"
	"slices"
	"strconv"
	"testing"

	"portage/api"
	"portage/states"
)

// scene is a program, an input and perhaps a state in which a machine begins.
type scene struct {
	p     api.Program
	f     api.Facts
	input []string
	s     api.State
	begun bool // at the state, else at the beginning of the program
}

func drawnScene(t testing.TB, r *rand.Rand) scene {
	p := drawnProgram(r, 25)
	c := scene{p: p, f: factsOf(t, p), input: drawnInput(r), begun: r.Intn(2) == 0}
	if c.begun {
		c.s = drawnState(r, p, c.f)
	}
	return c
}

func (c scene) machine(t testing.TB, l api.Limits) *Machine {
	t.Helper()
	if c.begun {
		return loaded(t, c.p, l, c.input, c.s)
	}
	return fresh(t, c.p, l.Fuel, l.Budget, c.input...)
}

func drawnLimits(r *rand.Rand) api.Limits {
	return api.Limits{Fuel: r.Intn(300), Budget: r.Intn(300)}
}

// P17.9: two runs, one behind the other, are as one.
func TestRunsAdd(t *testing.T) {
	for seed := range int64(1500) {
		r := rand.New(rand.NewSource(seed))
		c, l := drawnScene(t, r), drawnLimits(r)
		m, other := c.machine(t, l), c.machine(t, l)
		a, b := r.Intn(100), r.Intn(100)
		if seed%5 == 0 {
			b = 1<<63 - 1 - a
		}
		first := m.Run(a)
		if n := first + m.Run(b); n != other.Run(a+b) || !tell(m).same(tell(other)) {
			t.Fatalf("Run(%d), Run(%d): %d, %+v; not %+v", a, b, n, m.Report(), other.Report())
		}
	}
}

// P17.10: what is loaded goes on as the other does, and prints what it prints from there on.
func TestLoadedGoesOn(t *testing.T) {
	for seed := range int64(600) {
		r := rand.New(rand.NewSource(seed))
		c, l := drawnScene(t, r), drawnLimits(r)
		m := c.machine(t, l)
		m.Run(r.Intn(60))
		if m.End().Kind != api.EndNone {
			continue
		}
		other := loaded(t, c.p, l, c.input, m.State())
		printed := len(m.Out())
		for m.End().Kind == api.EndNone {
			n := 1 + r.Intn(4)
			if a, b := m.Run(n), other.Run(n); a != b {
				t.Fatalf("Run is %d and %d", a, b)
			}
			ours, theirs := m.Report(), other.Report()
			ours.Out = ours.Out[printed:]
			if !sameReport(ours, theirs) || !sameState(m.State(), other.State()) || m.Safe() != other.Safe() {
				t.Fatalf("%+v, loaded %+v", ours, theirs)
			}
			if r.Intn(10) == 0 && m.End().Kind == api.EndNone {
				// It is carried on once more.
				other = loaded(t, c.p, l, c.input, other.State())
				printed = len(m.Out())
			}
		}
	}
}

// P17.11, W6: with more fuel and more budget the steps are the same, as long as there is enough of both.
func TestMoreOfBoth(t *testing.T) {
	ends := map[int]int{}
	for seed := range int64(600) {
		r := rand.New(rand.NewSource(seed))
		c, l := drawnScene(t, r), drawnLimits(r)
		more := api.Limits{Fuel: l.Fuel + r.Intn(3)*r.Intn(100), Budget: l.Budget + r.Intn(3)*r.Intn(100)}
		a, b := c.machine(t, l), c.machine(t, more)
		for {
			made := a.Step()
			if !made {
				break
			}
			if !b.Step() {
				t.Fatal("with more a step is not made")
			}
			if !tell(a).same(tell(b)) {
				t.Fatalf("%+v, with more %+v", tell(a), tell(b))
			}
		}
		end := a.End()
		ends[end.Kind]++
		if end.Kind != api.EndFuel && end.Kind != api.EndHeap && (b.End() != end || b.Step() || b.Report().Steps != a.Report().Steps) {
			t.Fatalf("%+v, with more %+v", a.Report(), b.Report())
		}
	}
	if len(ends) != 5 {
		t.Error("not all ends", ends)
	}
}

// P17.12, W5: every state is one of the program; steps are those that were made; what is spent never falls, nor is above the budget.
func TestStatesAreRight(t *testing.T) {
	for seed := range int64(600) {
		r := rand.New(rand.NewSource(seed))
		c, l := drawnScene(t, r), drawnLimits(r)
		m := c.machine(t, l)
		steps, spent := c.s.Steps, c.s.Spent
		for {
			s := m.State()
			if states.Check(c.p, c.f, s) != api.OK || s.Steps != steps || s.Spent < spent || s.Spent > max(l.Budget, c.s.Spent) {
				t.Fatalf("behind %d steps, %d spent: %+v", steps, spent, s)
			}
			spent = s.Spent
			if m.Step() {
				steps++
			}
			if m.End().Kind != api.EndNone {
				break
			}
		}
		if r := m.Report(); r.Steps != steps || r.Spent < spent || r.Spent > max(l.Budget, c.s.Spent) {
			t.Fatalf("behind %d steps: %+v", steps, r)
		}
	}
}

// P17.13: every machine ends.
func TestAllEnd(t *testing.T) {
	for seed := range int64(1500) {
		r := rand.New(rand.NewSource(seed))
		c, l := drawnScene(t, r), drawnLimits(r)
		if seed%4 == 0 {
			l.Fuel = r.Intn(12)
		}
		m := c.machine(t, l)
		m.Run(max(1, l.Fuel-c.s.Steps+1))
		if m.End().Kind == api.EndNone || m.Step() || m.Run(9) != 0 {
			t.Fatalf("it goes on: %+v", m.Report())
		}
	}
}

// shuffled is the same state with other numbers, and with texts and objects that nothing leads to.
func shuffled(r *rand.Rand, s api.State) api.State {
	s = copyOf(s)
	s.Texts = append(s.Texts, "nobody's", "nor this")
	s.Objects = append(s.Objects, api.Object{Kind: api.Array, Items: vals(txt(0))}, api.Object{Kind: api.Chan, Cap: 2})
	texts, objects := r.Perm(len(s.Texts)), r.Perm(len(s.Objects))
	value := func(v api.Value) api.Value {
		switch v.Kind {
		case api.Text:
			v.N = int64(texts[v.N])
		case api.Array, api.Record, api.Bound, api.Chan:
			v.N = int64(objects[v.N])
		}
		return v
	}
	out := s
	out.Texts, out.Objects = make([]string, len(s.Texts)), make([]api.Object, len(s.Objects))
	for i, t := range s.Texts {
		out.Texts[texts[i]] = t
	}
	for i, o := range s.Objects {
		for k := range o.Items {
			o.Items[k] = value(o.Items[k])
		}
		for k := range o.Keys {
			o.Keys[k] = int64(texts[o.Keys[k]])
		}
		out.Objects[objects[i]] = o
	}
	for _, f := range out.Fibers {
		for _, g := range f.Frames {
			for k := range g.Slots {
				g.Slots[k] = value(g.Slots[k])
			}
		}
	}
	return out
}

// W8: states that are the same go on alike, whatever their numbers.
func TestNumbersDontMatter(t *testing.T) {
	for seed := range int64(500) {
		r := rand.New(rand.NewSource(seed))
		p := drawnProgram(r, 25)
		s := drawnState(r, p, factsOf(t, p))
		l, input := drawnLimits(r), drawnInput(r)
		other := shuffled(r, s)
		if !states.Same(s, other) {
			t.Fatal("they are not the same")
		}
		a, b := loaded(t, p, l, input, s), loaded(t, p, l, input, other)
		for a.End().Kind == api.EndNone {
			if !sameState(a.State(), b.State()) {
				t.Fatalf("%+v and %+v", a.State(), b.State())
			}
			if a.Step() != b.Step() || !sameReport(a.Report(), b.Report()) {
				t.Fatalf("%+v and %+v", a.Report(), b.Report())
			}
		}
	}
}

// P17.6: what only tells changes nothing, however often it is asked.
func TestTellingChangesNothing(t *testing.T) {
	for seed := range int64(400) {
		r := rand.New(rand.NewSource(seed))
		c, l := drawnScene(t, r), drawnLimits(r)
		asked, silent := c.machine(t, l), c.machine(t, l)
		for {
			a := tell(asked)
			if b := tell(asked); !a.same(b) {
				t.Fatalf("%+v, then %+v", a, b)
			}
			if asked.Run(3) != silent.Run(3) {
				t.Fatal("unlike runs")
			}
			if asked.End().Kind != api.EndNone {
				break
			}
		}
		if !tell(asked).same(tell(silent)) {
			t.Fatalf("%+v and %+v", tell(asked), tell(silent))
		}
	}
}

// R5: machines know nothing of one another: two that take turns do what each does alone.
func TestMachinesAreAlone(t *testing.T) {
	for seed := range int64(200) {
		r := rand.New(rand.NewSource(seed))
		c, l := drawnScene(t, r), drawnLimits(r)
		alone := c.machine(t, l)
		var rows []told
		for range 60 {
			alone.Step()
			rows = append(rows, tell(alone))
		}
		a, b := c.machine(t, l), c.machine(t, l)
		for k := range rows {
			a.Step()
			if !tell(a).same(rows[k]) {
				t.Fatal("the first, behind", k+1)
			}
			b.Step()
			if !tell(b).same(rows[k]) {
				t.Fatal("the second, behind", k+1)
			}
		}
	}
}

// What is sent comes out in the order in which it was sent, each once, through a channel that fills and empties again and again.
func TestThroughAChannel(t *testing.T) {
	for _, room := range []string{"1", "2", "7", "64"} {
		p := parsed(t, `func main 0 3
chan `+room+`
store 0
func give
load 0
spawn 1
next:
load 0
recv
dup
jz over
print
jump next
over:
ret
func give 1 2
int 1
store 1
more:
load 0
load 1
send
load 1
int 1
add
store 1
load 1
int 100
le
jnz more
load 0
shut
nil
ret
`)
		m := fresh(t, p, 9999, 9999)
		m.Run(9999)
		var want []string
		for k := range 100 {
			want = append(want, strconv.Itoa(k+1))
		}
		if !slices.Equal(m.Out(), want) || m.End() != (api.End{Kind: api.EndDone, Text: "nil"}) {
			t.Errorf("room %s: %q, %v", room, m.Out(), m.End())
		}
	}
}
