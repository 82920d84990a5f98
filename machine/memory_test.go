package machine

import (
	"math/rand"
	"reflect"
	"slices"
	"testing"

	"portage/api"
)

// withRoom is a copy of a list with room behind it in which something stands.
func withRoom[T any](l []T, more T) []T {
	return append(append(make([]T, 0, len(l)+2), l...), more, more)[:len(l)]
}

// full is a copy of a list up to the end of its room.
func full[T any](l []T) []T { return append([]T{}, l[:cap(l)]...) }

// scrawl writes over a list and all of its room.
func scrawl[T any](l []T, x T) {
	l = l[:cap(l)]
	for i := range l {
		l[i] = x
	}
}

var odd = val(50, 50)

// given is all that Load is handed.
type given struct {
	p     api.Program
	input []string
	s     api.State
}

// roomy is a copy whose lists all have spare room that is filled.
func (g given) roomy() given {
	g.p.Consts = withRoom(g.p.Consts, api.Const{Kind: 77})
	g.p.Funcs = withRoom(g.p.Funcs, api.Function{Name: "room"})
	for i := range g.p.Funcs {
		f := &g.p.Funcs[i]
		f.Code, f.Handlers = withRoom(f.Code, ins(77)), withRoom(f.Handlers, api.Handler{From: 77})
	}
	g.input = withRoom(g.input, "room")
	g.s = roomyState(g.s)
	return g
}

func roomyState(s api.State) api.State {
	s.Texts, s.Objects, s.Fibers = withRoom(s.Texts, "room"), withRoom(s.Objects, api.Object{Kind: 77}), withRoom(s.Fibers, api.Fiber{})
	for i := range s.Objects {
		o := &s.Objects[i]
		o.Items, o.Keys = withRoom(o.Items, odd), withRoom(o.Keys, 77)
	}
	for i := range s.Fibers {
		s.Fibers[i].Frames = roomyFrames(s.Fibers[i].Frames)
	}
	return s
}

func roomyFrames(l []api.Frame) []api.Frame {
	l = withRoom(l, frame(77, 77))
	for i := range l {
		l[i].Slots = withRoom(l[i].Slots, odd)
	}
	return l
}

// unfolded is a copy with all that lies in its lists' room.
func (g given) unfolded() given {
	g.p.Consts, g.p.Funcs = full(g.p.Consts), full(g.p.Funcs)
	for i := range g.p.Funcs {
		f := &g.p.Funcs[i]
		f.Code, f.Handlers = full(f.Code), full(f.Handlers)
	}
	g.input, g.s.Texts, g.s.Objects, g.s.Fibers = full(g.input), full(g.s.Texts), full(g.s.Objects), full(g.s.Fibers)
	for i := range g.s.Objects {
		o := &g.s.Objects[i]
		o.Items, o.Keys = full(o.Items), full(o.Keys)
	}
	for i := range g.s.Fibers {
		g.s.Fibers[i].Frames = unfoldedFrames(g.s.Fibers[i].Frames)
	}
	return g
}

func unfoldedFrames(l []api.Frame) []api.Frame {
	l = full(l)
	for i := range l {
		l[i].Slots = full(l[i].Slots)
	}
	return l
}

// wipe writes over all of it.
func (g given) wipe() {
	for _, f := range g.p.Funcs {
		scrawl(f.Code, ins(api.OpYield))
		scrawl(f.Handlers, api.Handler{To: 99, Target: -1})
	}
	scrawl(g.p.Consts, api.Const{Kind: 50})
	scrawl(g.p.Funcs, api.Function{})
	scrawl(g.input, "scrawled")
	wipeState(g.s)
}

func wipeState(s api.State) {
	for _, o := range s.Objects {
		scrawl(o.Items, odd)
		scrawl(o.Keys, 50)
	}
	for _, f := range s.Fibers {
		wipeFrames(f.Frames)
	}
	scrawl(s.Texts, "scrawled")
	scrawl(s.Objects, api.Object{Kind: 50})
	scrawl(s.Fibers, fiber(frame(50, 50)))
}

func wipeFrames(l []api.Frame) {
	for _, f := range l {
		scrawl(f.Slots, odd)
	}
	scrawl(l, frame(50, 50))
}

// R4: what New, Load and Replace are handed is not changed, its spare room included, and not kept: machines go on as others when all of it is written over.
func TestNothingIsKept(t *testing.T) {
	for seed := range int64(300) {
		r := rand.New(rand.NewSource(seed))
		p := drawnProgram(r, 20)
		facts := factsOf(t, p)
		g := given{p, drawnInput(r), drawnState(r, p, facts)}
		l := drawnLimits(r)
		a, b := g.roomy(), g.roomy()
		before := a.unfolded()
		one, other := loaded(t, a.p, l, a.input, a.s), loaded(t, b.p, l, b.input, b.s)
		if seed%2 == 0 {
			one, other = fresh(t, a.p, l.Fuel, l.Budget, a.input...), fresh(t, b.p, l.Fuel, l.Budget, b.input...)
		}
		b.wipe()
		for range 6 {
			n := r.Intn(30)
			if one.Run(n) != other.Run(n) || !tell(one).same(tell(other)) {
				t.Fatalf("it hangs on what was handed in: %+v, %+v", tell(one), tell(other))
			}
			mk := maker{r: r, p: p, f: facts}
			x := roomyFrames(mk.frames())
			y, was := roomyFrames(x), unfoldedFrames(x)
			if one.Replace(x) != other.Replace(y) {
				t.Fatal("unlike answers of Replace")
			}
			wipeFrames(y)
			one.Run(1)
			other.Run(1)
			if !tell(one).same(tell(other)) || !reflect.DeepEqual(unfoldedFrames(x), was) {
				t.Fatalf("it hangs on the frames that were handed in: %+v, %+v", tell(one), tell(other))
			}
		}
		if !reflect.DeepEqual(a.unfolded(), before) {
			t.Fatal("what was handed in has changed")
		}
	}
}

// R4: what a machine tells is new memory: it may be written over, and stays when the machine goes on.
func TestAnswersAreNew(t *testing.T) {
	for seed := range int64(300) {
		r := rand.New(rand.NewSource(seed))
		c, l := drawnScene(t, r), drawnLimits(r)
		m, other := c.machine(t, l), c.machine(t, l)
		for range 15 {
			n := r.Intn(8)
			m.Run(n)
			other.Run(n)
			a, b := tell(m), tell(m)
			wipeState(a.state)
			scrawl(a.report.Out, "scrawled")
			scrawl(a.top.Slots, odd)
			scrawl(m.Out(), "scrawled")
			if !tell(m).same(b) || !tell(m).same(tell(other)) {
				t.Fatalf("an answer was the machine's own: %+v, %+v", tell(m), b)
			}
			kept := tell(other)
			other.Run(4)
			m.Run(4)
			if !kept.same(b) {
				t.Fatalf("an answer has changed: %+v, %+v", kept, b)
			}
		}
	}
}

// R4: no two lists of one answer share memory, their spare room included.
func TestListsAreApart(t *testing.T) {
	for seed := range int64(300) {
		r := rand.New(rand.NewSource(seed))
		c, l := drawnScene(t, r), drawnLimits(r)
		m := c.machine(t, l)
		m.Run(r.Intn(50))
		s := m.State()
		k := int64(0)
		mark := func(l []api.Value) {
			l = l[:cap(l)]
			for i := range l {
				l[i] = val(60, k)
				k++
			}
		}
		seen := func(l []api.Value, next int64) int64 {
			for _, v := range l[:cap(l)] {
				if v != val(60, next) {
					t.Fatal("two lists share memory")
				}
				next++
			}
			return next
		}
		var lists [][]api.Value
		for _, o := range s.Objects {
			lists = append(lists, o.Items)
		}
		for _, f := range s.Fibers {
			for _, g := range f.Frames {
				lists = append(lists, g.Slots)
			}
		}
		for _, l := range lists {
			mark(l)
		}
		next := int64(0)
		for _, l := range lists {
			next = seen(l, next)
		}
		for i := range s.Fibers {
			scrawl(s.Fibers[i].Frames, frame(i, i))
		}
		for i, f := range s.Fibers {
			if slices.ContainsFunc(f.Frames[:cap(f.Frames)], func(g api.Frame) bool { return g.Fn != i }) {
				t.Fatal("two fibers share memory")
			}
		}
	}
}
