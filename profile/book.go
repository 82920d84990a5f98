package profile

import (
	"cmp"
	"slices"
	"sync/atomic"

	"portage/api"
)

// Book counts what a machine does.
type Book struct {
	funcs int // functions without instructions have no place in the map
	spots map[api.Place]*spot
}

// spot is a spot that several goroutines may add to: the map stays as New made it, so that only what lies in a spot changes.
type spot struct {
	count, callee atomic.Int64
	a, b          atomic.Uint32
}

// New is a book over a profile of a program.
func New(p api.Program, from api.Profile) *Book {
	b := &Book{funcs: len(p.Funcs), spots: map[api.Place]*spot{}}
	for fn, f := range p.Funcs {
		for pc := range f.Code {
			s := new(spot)
			s.add(At(from, fn, pc))
			b.spots[api.Place{Fn: fn, PC: pc}] = s
		}
	}
	return b
}

// Note counts an instruction that is about to run on these operands, the upmost last.
func (b *Book) Note(fn, pc int, args []api.Value, callee int) {
	if s, ok := b.spots[api.Place{Fn: fn, PC: pc}]; ok {
		s.add(api.Spot{Count: 1, A: kindBit(args, 0), B: kindBit(args, 1), Callee: callee})
	}
}

// kindBit is the bit of the kind of the value that lies so deep beneath the upmost one, which is the last; 0, if there is none.
func kindBit(l []api.Value, deep int) uint16 {
	if deep >= len(l) {
		return 0
	}
	kind := l[len(l)-1-deep].Kind
	if kind < api.Nil || kind > api.Chan {
		return 0
	}
	return 1 << kind
}

// Profile is what was counted.
func (b *Book) Profile() api.Profile {
	funcs := make([][]api.Spot, b.funcs)
	for _, at := range b.places() {
		// The places come in order, so that each spot lies at its own.
		funcs[at.Fn] = append(funcs[at.Fn], b.spots[at].tell())
	}
	return api.Profile{Funcs: funcs}
}

// places are all places of the book, in order.
func (b *Book) places() []api.Place {
	l := make([]api.Place, 0, len(b.spots))
	for at := range b.spots {
		l = append(l, at)
	}
	slices.SortFunc(l, func(x, y api.Place) int {
		return cmp.Or(cmp.Compare(x.Fn, y.Fn), cmp.Compare(x.PC, y.PC))
	})
	return l
}

// add puts the spot together with another one.
func (s *spot) add(x api.Spot) {
	join(&s.count, x.Count, sum)
	s.a.Or(uint32(x.A))
	s.b.Or(uint32(x.B))
	join(&s.callee, int64(x.Callee), oneCallee)
}

// join puts a number together with another one, whoever else does so meanwhile.
func join(at *atomic.Int64, x int64, both func(a, b int64) int64) {
	for {
		old := at.Load()
		if at.CompareAndSwap(old, both(old, x)) {
			return
		}
	}
}

// tell is the spot as it is now.
func (s *spot) tell() api.Spot {
	return api.Spot{
		Count:  s.count.Load(),
		A:      uint16(s.a.Load()),
		B:      uint16(s.b.Load()),
		Callee: int(s.callee.Load()),
	}
}
