package machine

import (
	"math/rand"
	"slices"
	"strings"
	"testing"

	"portage/api"
)

// refuses asks a machine for what it can't put in its frame's place, and that nothing has changed.
func refuses(t testing.TB, m *Machine, what string, l ...api.Frame) {
	t.Helper()
	was := tell(m)
	if m.Replace(l) || !tell(m).same(was) {
		t.Errorf("Replace of %s", what)
	}
}

// yard is a machine of two fibers: main waits for f, which has two locals and stands at its second instruction, a call; the other is at its beginning.
func yard(t testing.TB) *Machine {
	p := parsed(t, strings.ReplaceAll(`const text "k"
func main 0 1 / func f / int 1 / call 1 / ret
func f 1 2 / func g / call 0 / pop / chan 1 / store 1 / load 1 / recv / ret
func g 0 0 / nil / ret
func h 1 1 / load 0 / nil / send / nil / ret`, " / ", "\n"))
	s := api.State{
		Texts:   []string{"t", "u"},
		Objects: []api.Object{{Kind: api.Array}, {Kind: api.Record}, {Kind: api.Bound, Fn: 1}, {Kind: api.Chan, Cap: 1}, {Kind: api.Chan, Cap: 1, Items: vals(whole(5))}},
		Fibers:  []api.Fiber{fiber(frame(0, 2, api.Value{}), frame(1, 1, whole(1), api.Value{}, val(api.Func, 2))), fiber(frame(2, 0))},
	}
	return loaded(t, p, api.Limits{Fuel: 99, Budget: 99}, nil, s)
}

// P17.7: frames take the last one's place, those beneath it stay; no step is made.
func TestReplace(t *testing.T) {
	m := yard(t)
	f := frame(1, 1, whole(7), txt(2))
	last := frame(2, 0)
	if !m.Replace([]api.Frame{f, f, last}) {
		t.Fatal("Replace")
	}
	want := []api.Frame{frame(0, 2, api.Value{}), frame(1, 1, whole(7), txt(0)), frame(1, 1, whole(7), txt(0)), last}
	if s := m.State(); !sameFiber(s.Fibers[0], fiber(want...)) || s.Steps != 0 || s.Current != 0 || !slices.Equal(s.Texts, []string{"k"}) {
		t.Errorf("%+v", s)
	}
	if top, n := m.Top(); n != 4 || !sameFrame(top, last) {
		t.Error("Top", top, n)
	}
	m.Run(2) // g returns
	if top, n := m.Top(); n != 3 || !sameFrame(top, frame(1, 2, whole(7), txt(2), api.Value{})) || m.Report().Steps != 2 {
		t.Error("Top", top, n)
	}
}

// P17.7: what is no list of right frames is refused, whatever is wrong with it.
func TestReplaceRefuses(t *testing.T) {
	m := yard(t)
	slot := func(v api.Value) api.Frame { return frame(1, 1, whole(1), v, val(api.Func, 2)) }
	call := frame(1, 1, whole(1), whole(1))
	refuses(t, m, "nothing")
	refuses(t, m, "a waiting frame alone", call)
	refuses(t, m, "one slot too many", frame(1, 1, whole(1), whole(1), whole(1), whole(1)))
	refuses(t, m, "one that should wait", slot(whole(1)), frame(2, 0))
	refuses(t, m, "one that waits at no call", frame(2, 0), frame(2, 0))
	refuses(t, m, "one too few", call, frame(1, 0, whole(1)))
	for _, n := range edges() {
		if n < 0 || n > 3 {
			refuses(t, m, "no function", frame(n, 0))
		}
		if n < 0 || n > 1 {
			refuses(t, m, "no place", frame(2, n))
		}
	}
	for _, v := range []api.Value{
		val(api.Nil, 1), val(api.Bool, 2), val(api.Bool, -1), val(api.Real, 0x7FF8000000000001), val(api.Real, -1), val(api.Text, 3), val(api.Text, -1), val(api.Func, 4), val(api.Func, -1),
		val(api.Array, 1), val(api.Array, 5), val(api.Array, -1), val(api.Record, 0), val(api.Record, 5), val(api.Bound, 0), val(api.Bound, 1), val(api.Bound, 5), val(api.Bound, -1),
		val(api.Chan, 0), val(api.Chan, 2), val(api.Chan, 5), val(-1, 0), val(10, 0), val(1<<40, 0),
		val(api.Text, -1<<63), val(api.Text, 1<<63-1), val(api.Array, -1<<63), val(api.Bound, 1<<63-1),
	} {
		refuses(t, m, "a wrong value", slot(v))
		refuses(t, m, "a wrong value beneath", frame(1, 1, whole(1), v), frame(2, 0))
	}
	for _, v := range []api.Value{
		{}, val(api.Bool, 0), val(api.Bool, 1), whole(-1 << 63), val(api.Real, 0x7FF8000000000000), val(api.Real, -1<<63), txt(0), txt(2), val(api.Func, 0), val(api.Func, 3),
		val(api.Array, 0), val(api.Record, 1), val(api.Bound, 2), val(api.Chan, 3), val(api.Chan, 4),
	} {
		if !m.Replace([]api.Frame{slot(v)}) {
			t.Errorf("Replace with %v", v)
		}
		if f, n := m.Top(); n != 2 || !sameFrame(f, slot(v)) {
			t.Error("Top", f, n)
		}
	}
}

// P17.7: up to as many frames as a fiber may have.
func TestReplaceDeep(t *testing.T) {
	row := func(n int) (l []api.Frame) {
		for range n - 1 {
			l = append(l, frame(1, 1, whole(1), whole(1)))
		}
		return append(l, frame(2, 0))
	}
	m := yard(t)
	refuses(t, m, "100 frames upon one", row(100)...)
	refuses(t, m, "1000 frames", row(1000)...)
	if _, n := m.Top(); !m.Replace(row(99)) || n != 2 {
		t.Error("99 frames upon one")
	}
	if f, n := m.Top(); n != 100 || !sameFrame(f, frame(2, 0)) {
		t.Error("Top", f, n)
	}
	refuses(t, m, "two upon 99", row(2)...)
	if !m.Replace(row(1)) {
		t.Error("one upon 99")
	}
	m.Run(2)
	if _, n := m.Top(); n != 99 || !m.Replace(row(2)) {
		t.Error("two upon 98")
	}
	lone := fresh(t, m.Core().World().Program, 9, 9)
	refuses(t, lone, "101 frames", row(101)...)
	if !lone.Replace(row(100)) {
		t.Error("100 frames")
	}
}

// P17.7: the machine settles: where the frames are blocked, the next fiber that can run has its turn; where none can, it ends.
func TestReplaceSettles(t *testing.T) {
	at := func(c int64) api.Frame { return frame(1, 6, whole(1), api.Value{}, val(api.Chan, c)) }
	send := func(c int64) api.Frame { return frame(3, 2, whole(1), val(api.Chan, c), whole(1)) }
	for _, f := range []api.Frame{at(3), send(4)} {
		m := yard(t)
		if !m.Replace([]api.Frame{f}) {
			t.Fatal("Replace by a blocked frame")
		}
		s := m.State()
		if top, n := m.Top(); n != 1 || !sameFrame(top, frame(2, 0)) || s.Current != 1 || m.End().Kind != api.EndNone || len(s.Fibers[0].Frames) != 2 {
			t.Error("Top", top, n, m.End())
		}
		// The other one is replaced by a blocked frame too.
		if !m.Replace([]api.Frame{f}) || m.End() != (api.End{Kind: api.EndStuck}) || m.Step() || m.Report().Steps != 0 {
			t.Error("stuck:", m.Report())
		}
		refuses(t, m, "a right frame behind the end", frame(2, 0))
		refuses(t, m, "nothing behind the end")
	}
	for _, f := range []api.Frame{at(4), send(3)} {
		m := yard(t)
		if !m.Replace([]api.Frame{f}) || m.State().Current != 0 {
			t.Error("Replace by a frame that waits for nothing")
		}
	}
	// A yield that is next is not yet made.
	m := fresh(t, parsed(t, "func main 0 0\nfunc main\nspawn 0\nyield\nnil\nret"), 9, 9)
	m.Run(2)
	if !m.Replace([]api.Frame{frame(0, 2)}) || m.State().Current != 0 {
		t.Error("a yield that is not yet made")
	}
}

// P17.7: frames of all sorts, right ones and others, again and again while the machine runs.
func TestReplaceOften(t *testing.T) {
	taken, refused, moved, stuck := 0, 0, 0, 0
	for seed := range int64(700) {
		r := rand.New(rand.NewSource(seed))
		p := drawnProgram(r, 15)
		f := factsOf(t, p)
		s := drawnState(r, p, f)
		l := api.Limits{Fuel: 200, Budget: 200}
		input := drawnInput(r)
		m, d := loaded(t, p, l, input, s), loadedModel(p, l, input, s)
		for range 25 {
			mk := maker{r: r, p: p, f: f, s: d.s}
			row := mk.frames()
			one := api.State{Fibers: []api.Fiber{fiber(row...)}}
			for k := r.Intn(5); k > 2 && len(one.Fibers) > 0; k-- {
				wrong(r, &one)
			}
			row = nil
			if len(one.Fibers) > 0 {
				row = one.Fibers[0].Frames
			}
			was := d.s.Current
			want := d.replace(row)
			if got := m.Replace(row); got != want {
				t.Fatalf("Replace of %+v: %v, not %v", row, got, want)
			}
			switch {
			case d.end.Kind == api.EndStuck:
				stuck++
			case !want:
				refused++
			case d.s.Current != was:
				moved++
			default:
				taken++
			}
			d.held(t, m)
			for range r.Intn(3) {
				d.stepped(t, m)
			}
		}
	}
	if min(taken, refused, moved, stuck) < 50 {
		t.Error(taken, refused, moved, stuck)
	}
}

// P17.8: the core is the machine's own, at each call the same.
func TestCore(t *testing.T) {
	p := parsed(t, "func main 0 0\nl:\nint 5\nprint\njump l")
	m := fresh(t, p, 20, 20, "in")
	c := m.Core()
	if c == nil || c != m.Core() || c.World() != m.World() {
		t.Fatal("another core")
	}
	if !c.Pay(3) || m.Report().Steps != 3 || m.Steps() != 3 || m.State().Steps != 3 || m.Left() != 17 {
		t.Error("Pay", m.Report())
	}
	c.Do(ins(api.OpPrint), vals(whole(8)))
	c.Do(ins(api.OpRead), nil)
	if s := m.State(); !slices.Equal(m.Out(), []string{"8"}) || s.Spent != 5 || s.Read != 1 || m.Report().Spent != 5 {
		t.Errorf("Do: %+v", s)
	}
	if !c.World().Heap.Spend(14) || m.Run(9) != 1 || m.End().Kind != api.EndHeap {
		t.Error("Spend", m.Report())
	}
	if !c.Pay(16) || c.Pay(1) || m.Core() != c || m.Report().Steps != 20 {
		t.Error("behind the end", m.Report())
	}
	m = fresh(t, p, 20, 20)
	m.Core().Pay(20)
	if m.Step() || m.End().Kind != api.EndFuel {
		t.Error("all steps are paid", m.End())
	}
	// Its methods are the machine's own.
	m = fresh(t, p, 20, 20)
	if !m.Pay(1) || m.Core().Steps() != 1 || len(m.Facts().Heights[0]) != 3 || len(m.Consts()) != 0 || m.TrapText(api.TrapType) != txt(0) || m.Read() != 0 {
		t.Error("the core's methods")
	}
}

// P17.8: what is done to a channel is done to the machine: a fiber that can't run makes no step, and one that can has its turn.
func TestCoreChannels(t *testing.T) {
	at := func(c int64) api.Frame { return frame(1, 6, whole(1), api.Value{}, val(api.Chan, c)) }
	m := yard(t)
	if !m.Replace([]api.Frame{at(4)}) {
		t.Fatal("Replace")
	}
	h := m.Core().World().Heap
	if v, ok, _ := h.Recv(val(api.Chan, 4)); v != whole(5) || !ok {
		t.Fatal("Recv")
	}
	if n := m.Run(1); n != 1 || m.State().Current != 1 {
		t.Error("a fiber that is blocked has made a step")
	}
	if ok, _ := h.Send(val(api.Chan, 4), whole(6)); !ok {
		t.Fatal("Send")
	}
	if n := m.Run(1); n != 1 || m.State().Current != 0 {
		t.Error("it could run")
	}
	m.Run(1)
	if f, n := m.Top(); n != 2 || !sameFrame(f, frame(1, 7, whole(1), api.Value{}, whole(6))) {
		t.Error("Top", f, n)
	}
	m = yard(t)
	m.Replace([]api.Frame{at(4)})
	h = m.Core().World().Heap
	h.Recv(val(api.Chan, 4))
	m.Run(2)
	if m.End().Kind != api.EndStuck || m.Run(5) != 0 || m.Report().Steps != 2 {
		t.Error("none can run", m.Report())
	}
}
