package base

import (
	"math/rand"
	"reflect"
	"slices"
	"testing"

	"portage/api"
)

// withRoom is a copy of a list with room behind it in which something stands.
func withRoom[T any](l []T, more T) []T {
	return append(append(make([]T, 0, len(l)+2), l...), more, more)[:len(l)]
}

// full is a copy of a list up to the end of its room.
func full[T any](l []T) []T { return append([]T{}, l[:cap(l)]...) }

// scrawl writes over a list and all of its room.
func scrawl[T any](l []T, x T) {
	l = l[:cap(l)]
	for i := range l {
		l[i] = x
	}
}

var odd = val(50, 50)

// given is all that New is handed.
type given struct {
	p     api.Program
	input []string
	s     api.State
}

// roomy is a copy whose lists all have spare room that is filled.
func (g given) roomy() given {
	g.p.Consts = withRoom(g.p.Consts, api.Const{Kind: 77})
	g.p.Funcs = withRoom(g.p.Funcs, api.Function{Name: "room"})
	for i := range g.p.Funcs {
		f := &g.p.Funcs[i]
		f.Code, f.Handlers = withRoom(f.Code, ins(77)), withRoom(f.Handlers, api.Handler{From: 77})
	}
	g.input, g.s.Texts = withRoom(g.input, "room"), withRoom(g.s.Texts, "room")
	g.s.Objects = withRoom(g.s.Objects, api.Object{Kind: 77})
	for i := range g.s.Objects {
		o := &g.s.Objects[i]
		o.Items, o.Keys = withRoom(o.Items, odd), withRoom(o.Keys, 77)
	}
	return g
}

// unfolded is a copy with all that lies in its lists' room.
func (g given) unfolded() given {
	g.p.Consts, g.p.Funcs = full(g.p.Consts), full(g.p.Funcs)
	for i := range g.p.Funcs {
		f := &g.p.Funcs[i]
		f.Code, f.Handlers = full(f.Code), full(f.Handlers)
	}
	g.input, g.s.Texts, g.s.Objects = full(g.input), full(g.s.Texts), full(g.s.Objects)
	for i := range g.s.Objects {
		o := &g.s.Objects[i]
		o.Items, o.Keys = full(o.Items), full(o.Keys)
	}
	return g
}

// wipe writes over all of it.
func (g given) wipe() {
	for _, f := range g.p.Funcs {
		scrawl(f.Code, ins(api.OpYield))
		scrawl(f.Handlers, api.Handler{To: 99, Target: -1})
	}
	for _, o := range g.s.Objects {
		scrawl(o.Items, odd)
		scrawl(o.Keys, 50)
	}
	scrawl(g.p.Consts, api.Const{Kind: 50})
	scrawl(g.p.Funcs, api.Function{})
	scrawl(g.input, "scrawled")
	scrawl(g.s.Texts, "scrawled")
	scrawl(g.s.Objects, api.Object{Kind: 50})
}

// run goes on with fibers of the same draws, and tells the events, the fibers and all that the core answers.
func run(seed int64, c *Core) []any {
	r := rand.New(rand.NewSource(seed))
	var told []any
	f := &api.Fiber{}
	for range 60 {
		e := c.Step(f)
		if e.Kind == api.EvAsk {
			f = fiber(worldly(r, c).frames()...)
		}
		told = append(told, e, copiedFiber(*f))
	}
	return append(told, stateOf(c), append([]string{}, c.Out()...), append([]api.Value{}, c.Consts()...), c.Facts(), c.World().Program)
}

// R4: what New is handed is not changed, its spare room included, and not kept: the core goes on as another one when all of it is written over.
func TestNewKeepsNothing(t *testing.T) {
	for seed := range int64(200) {
		r := rand.New(rand.NewSource(seed))
		p := drawnProgram(r, 20)
		g := given{p, drawnInput(r), drawnState(r, p, factsOf(t, p))}
		a, b := g.roomy(), g.roomy()
		before := a.unfolded()
		l := api.Limits{Fuel: 100, Budget: 100}
		one, other := loaded(t, a.p, l, a.input, a.s), loaded(t, b.p, l, b.input, b.s)
		b.wipe()
		x := run(seed, one)
		if !reflect.DeepEqual(a.unfolded(), before) {
			t.Fatal("what was handed in has changed")
		}
		if y := run(seed, other); !reflect.DeepEqual(x, y) {
			t.Fatal("a core hangs on what was handed in:", x, y)
		}
	}
}

// R4: Out, Consts and Facts are new memory at each call; the world is the core's own.
func TestAnswersAreNew(t *testing.T) {
	p := alone(0, list(ins(api.OpConst, 1), ins(api.OpPrint), ins(api.OpNil), ins(api.OpRet)))
	for n := range 6 { // unlike rooms behind what was printed
		c := begun(t, p, 99, 99)
		for range n {
			c.Do(ins(api.OpPrint), vals(whole(7)))
		}
		out, values, facts := c.Out(), c.Consts(), c.Facts()
		scrawl(c.Out(), "scrawled")
		c.Do(ins(api.OpPrint), vals(whole(8)))
		if len(out) != n || slices.Contains(out, "scrawled") || slices.Contains(out, "8") || slices.Contains(out[:cap(out)], "8") || slices.Contains(c.Out(), "scrawled") {
			t.Errorf("printed %q, then %q", out, c.Out())
		}
		scrawl(c.Consts(), odd)
		other := c.Facts()
		scrawl(other.Heights[0], 50)
		scrawl(other.Most, 50)
		scrawl(other.Heights, nil)
		if !slices.Equal(c.Consts(), values) || !reflect.DeepEqual(c.Facts(), facts) || !reflect.DeepEqual(facts, factsOf(t, p)) {
			t.Error("constants", c.Consts(), "facts", c.Facts())
		}
		f := fiber(frame(0, 0))
		if e := c.Step(f); e != (api.Event{}) || !sameFiber(*f, *fiber(frame(0, 1, val(api.Real, 5)))) {
			t.Error("const", e, *f)
		}
		if v, _ := c.World().Heap.Record(); v != val(api.Record, 0) || c.World().Heap.Spent() != 2*n+4 {
			t.Error("the world is not the core's own", c.World().Heap.Spent())
		}
	}
}

// R4: Do keeps nothing of the values that it is handed.
func TestDoKeepsNothing(t *testing.T) {
	c := begun(t, caller(2), 9, 99)
	args := withRoom(vals(whole(1), whole(2), whole(3)), odd)
	c.Do(ins(api.OpArray, 3), args)
	bound := withRoom(vals(val(api.Func, 1), whole(4)), odd)
	c.Do(ins(api.OpBind, 1), bound)
	c.Do(ins(api.OpBind, 1), vals(val(api.Bound, 1), whole(5)))
	if !slices.Equal(full(args), vals(whole(1), whole(2), whole(3), odd, odd)) || !slices.Equal(full(bound), vals(val(api.Func, 1), whole(4), odd, odd)) {
		t.Error("Do has changed", full(args), full(bound))
	}
	scrawl(args, odd)
	scrawl(bound, odd)
	want := []api.Object{{Kind: api.Array, Items: vals(whole(1), whole(2), whole(3))}, {Kind: api.Bound, Fn: 1, Items: vals(whole(4))}, {Kind: api.Bound, Fn: 1, Items: vals(whole(4), whole(5))}}
	if got := stateOf(c).Objects; !slices.EqualFunc(got, want, sameObject) {
		t.Error("objects", got)
	}
}

// What Step and Throw leave in a fiber shares no memory with the core: it may be written over, and the core is what it was.
func TestFibersShareNothing(t *testing.T) {
	for seed := range int64(400) {
		r := rand.New(rand.NewSource(seed))
		p := drawnProgram(r, 20)
		s := drawnState(r, p, factsOf(t, p))
		l, input := api.Limits{Fuel: 300, Budget: 300}, drawnInput(r)
		c, m := loaded(t, p, l, input, s), newModel(p, l, input, s)
		for range 6 {
			f := fiber(worldly(r, c).frames()...)
			for range 1 + r.Intn(8) {
				m.stepped(t, c, f)
			}
			if g := copiedFiber(*f); r.Intn(3) == 0 {
				c.Throw(f, whole(1))
				m.throw(&g, whole(1))
			}
			for _, fr := range f.Frames {
				scrawl(fr.Slots, odd)
			}
			scrawl(f.Frames, frame(50, 50))
			m.held(t, c)
		}
	}
}

// Fibers whose lists are pieces of longer ones don't reach into one another: slots that were handed in, what lies behind them and behind a fiber's frames stay.
func TestRoomBehindFibersStays(t *testing.T) {
	for seed := range int64(500) {
		r := rand.New(rand.NewSource(seed))
		p := drawnProgram(r, 20)
		c := loaded(t, p, api.Limits{Fuel: 300, Budget: 300}, drawnInput(r), drawnState(r, p, factsOf(t, p)))
		l := worldly(r, c).frames()
		n := len(l)
		slots, was := make([][]api.Value, n), copiedFiber(*fiber(l...))
		for i := range l {
			l[i].Slots = withRoom(l[i].Slots, odd)
			slots[i] = l[i].Slots
		}
		l = withRoom(l, frame(50, 50, odd))
		f := fiber(l...)
		f.Frames = l
		for range 1 + r.Intn(9) {
			c.Step(f)
		}
		if r.Intn(4) == 0 {
			c.Throw(f, whole(1))
		}
		for i, s := range slots {
			if room := s[:cap(s)][len(s):]; !slices.Equal(room, vals(odd, odd)) {
				t.Fatal("the room behind the slots of frame", i, "has become", room)
			}
			if !slices.Equal(s, was.Frames[i].Slots) {
				t.Fatal("the slots of frame", i, "have become", s)
			}
		}
		for _, fr := range l[n : n+2] {
			if !sameFrame(fr, frame(50, 50, odd)) {
				t.Fatal("the room behind frames has become", fr)
			}
		}
	}
}
