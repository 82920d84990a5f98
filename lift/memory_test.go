package lift

import (
	"cmp"
	"math/rand"
	"reflect"
	"runtime"
	"slices"
	"testing"
	"unsafe"

	"portage/api"
	"portage/sample"
)

// withRoom is a copy of a list with room behind it in which something stands.
func withRoom[T any](l []T, more T) []T {
	return append(append(make([]T, 0, len(l)+2), l...), more, more)[:len(l)]
}

// full is a copy of a list up to the end of its room.
func full[T any](l []T) []T { return append([]T{}, l[:cap(l)]...) }

// given is all that is handed in.
type given struct {
	p api.Program
	f api.Facts
	c api.Code
}

// each is a copy all of whose lists are made by the functions: roomy ones, or ones with all that lies in their room.
func (g given) each(ints func(l []int) []int, opnds func(l []api.Opnd) []api.Opnd, rest func(g *given)) given {
	rest(&g)
	for i := range g.f.Heights {
		g.f.Heights[i] = ints(g.f.Heights[i])
	}
	g.f.Most = ints(g.f.Most)
	for k := range g.c.Blocks {
		b := &g.c.Blocks[k]
		b.Next = ints(b.Next)
		for j := range b.Ins {
			b.Ins[j].Args = opnds(b.Ins[j].Args)
			for s := range b.Ins[j].Exit {
				b.Ins[j].Exit[s].Slots = opnds(b.Ins[j].Exit[s].Slots)
			}
		}
	}
	return g
}

// roomy is a copy whose lists all have spare room that is filled.
func (g given) roomy() given {
	ints := func(l []int) []int { return withRoom(l, 77) }
	return g.each(ints, func(l []api.Opnd) []api.Opnd { return withRoom(l, at(77, 77)) }, func(g *given) {
		g.p.Consts, g.p.Funcs = withRoom(g.p.Consts, api.Const{Kind: 77}), withRoom(g.p.Funcs, api.Function{Name: "room"})
		for i := range g.p.Funcs {
			f := &g.p.Funcs[i]
			f.Code, f.Handlers = withRoom(f.Code, ins(77)), withRoom(f.Handlers, api.Handler{From: 77})
		}
		g.f.Heights = withRoom(g.f.Heights, []int{77})
		g.c.Blocks = withRoom(g.c.Blocks, api.Block{PC: 77})
		for k := range g.c.Blocks {
			b := &g.c.Blocks[k]
			b.Ins = withRoom(b.Ins, api.RIns{Op: 77})
			for j := range b.Ins {
				b.Ins[j].Exit = withRoom(b.Ins[j].Exit, api.Shape{Fn: 77})
			}
		}
	})
}

// unfolded is a copy with all that lies in its lists' room.
func (g given) unfolded() given {
	return g.each(full[int], full[api.Opnd], func(g *given) {
		g.p.Consts, g.p.Funcs = full(g.p.Consts), full(g.p.Funcs)
		for i := range g.p.Funcs {
			f := &g.p.Funcs[i]
			f.Code, f.Handlers = full(f.Code), full(f.Handlers)
		}
		g.f.Heights, g.c.Blocks = full(g.f.Heights), full(g.c.Blocks)
		for k := range g.c.Blocks {
			b := &g.c.Blocks[k]
			b.Ins = full(b.Ins)
			for j := range b.Ins {
				b.Ins[j].Exit = full(b.Ins[j].Exit)
			}
		}
	})
}

// R4: nothing that is handed in is changed, its spare room included.
func TestArgumentsStay(t *testing.T) {
	r := rand.New(rand.NewSource(4))
	for range 300 {
		p := sample.Program(r, 15)
		f := factsOf(t, p)
		c := sample.Code(r, p, f, lifted(t, p, r.Intn(len(p.Funcs))))
		if r.Intn(2) == 0 {
			sample.Spoil(r, &c)
		}
		g := given{p, f, c}.roomy()
		before := g.unfolded()
		Function(g.p, g.f, c.Fn)
		Check(g.p, g.f, g.c)
		for _, b := range g.c.Blocks {
			Steps(b)
		}
		if after := g.unfolded(); !reflect.DeepEqual(after, before) {
			t.Fatal("what was handed in became", after)
		}
	}
}

// span is where a list lies, its spare room included.
type span struct {
	from, to uintptr
}

// lies are the spans of a list, or none, if it has no memory.
func lies[T any](l []T) []span {
	if cap(l) == 0 {
		return nil
	}
	from := uintptr(unsafe.Pointer(unsafe.SliceData(l)))
	return []span{{from, from + uintptr(cap(l))*unsafe.Sizeof(*new(T))}}
}

// spans are those of all lists of what was handed in, or answered.
func (g given) spans() []span {
	l := slices.Concat(lies(g.p.Consts), lies(g.p.Funcs), lies(g.f.Heights), lies(g.f.Most), lies(g.c.Blocks))
	for _, f := range g.p.Funcs {
		l = slices.Concat(l, lies(f.Code), lies(f.Handlers))
	}
	for _, h := range g.f.Heights {
		l = append(l, lies(h)...)
	}
	for _, b := range g.c.Blocks {
		l = slices.Concat(l, lies(b.Next), lies(b.Ins))
		for _, i := range b.Ins {
			l = slices.Concat(l, lies(i.Args), lies(i.Exit))
			for _, s := range i.Exit {
				l = append(l, lies(s.Slots)...)
			}
		}
	}
	return l
}

// R4: an answer is new memory: no list of it shares any with another one, with another answer or with what was handed in.
func TestAnswerIsNew(t *testing.T) {
	r := rand.New(rand.NewSource(44))
	for range 300 {
		p := sample.Program(r, 15)
		f := factsOf(t, p)
		fn := r.Intn(len(p.Funcs))
		one, _ := Function(p, f, fn)
		other, _ := Function(p, f, fn)
		l := slices.Concat(given{p, f, one}.spans(), given{c: other}.spans())
		slices.SortFunc(l, func(a, b span) int { return cmp.Compare(a.from, b.from) })
		for k := range l[1:] {
			if l[k].to > l[k+1].from {
				t.Fatal("two lists share memory", p)
			}
		}
		runtime.KeepAlive(one)
		runtime.KeepAlive(other)
	}
}

// R4: an answer does not hang on what becomes of what was handed in.
func TestAnswerIsKept(t *testing.T) {
	r := rand.New(rand.NewSource(45))
	for range 300 {
		p := sample.Program(r, 15)
		f := factsOf(t, p)
		fn := r.Intn(len(p.Funcs))
		want := meant(p, f, fn)
		c, _ := Function(p, f, fn)
		for i := range p.Funcs {
			clear(p.Funcs[i].Code)
			clear(f.Heights[i])
		}
		if !sample.Same(c, want) {
			t.Fatal("it became", c)
		}
	}
}

// R3: no list and an empty one are the same.
func TestEmptyLists(t *testing.T) {
	r := rand.New(rand.NewSource(3))
	for range 300 {
		p := sample.Program(r, 15)
		f := factsOf(t, p)
		c := sample.Code(r, p, f, lifted(t, p, r.Intn(len(p.Funcs))))
		if r.Intn(2) == 0 {
			sample.Spoil(r, &c)
		}
		want := Check(p, f, c)
		for k := range c.Blocks {
			b := &c.Blocks[k]
			b.Next = append([]int{}, b.Next...)
			for j := range b.Ins {
				i := &b.Ins[j]
				i.Args, i.Exit = append([]api.Opnd{}, i.Args...), append([]api.Shape{}, i.Exit...)
				for s := range i.Exit {
					i.Exit[s].Slots = append([]api.Opnd{}, i.Exit[s].Slots...)
				}
			}
		}
		p.Funcs[0].Handlers = append([]api.Handler{}, p.Funcs[0].Handlers...)
		if got := Check(p, f, c); got != want {
			t.Fatal(got, "and not", want, c)
		}
	}
}
