package profile

import (
	"math"
	"math/rand"
	"slices"

	"portage/api"
)

// of is a profile of these functions.
func of(funcs ...[]api.Spot) api.Profile { return api.Profile{Funcs: funcs} }

// spots are the spots of a function.
func spots(l ...api.Spot) []api.Spot { return l }

// sized is a program whose functions have so many instructions.
func sized(sizes ...int) api.Program {
	var p api.Program
	for _, n := range sizes {
		p.Funcs = append(p.Funcs, api.Function{Code: make([]api.Instr, n)})
	}
	return p
}

// sizes are how many spots a profile has of each of its functions.
func sizes(f api.Profile) []int {
	var l []int
	for _, s := range f.Funcs {
		l = append(l, len(s))
	}
	return l
}

// kinds are values of these kinds.
func kinds(l ...int) []api.Value {
	var v []api.Value
	for _, k := range l {
		v = append(v, api.Value{Kind: k, N: int64(k) * 7})
	}
	return v
}

// alike says whether two profiles are the same, nil and an empty list being so.
func alike(f, g api.Profile) bool {
	return slices.EqualFunc(f.Funcs, g.Funcs, slices.Equal[[]api.Spot])
}

// copied is a profile with memory of its own.
func copied(f api.Profile) api.Profile {
	g := api.Profile{Funcs: make([][]api.Spot, len(f.Funcs))}
	for fn, l := range f.Funcs {
		g.Funcs[fn] = append([]api.Spot{}, l...)
	}
	return g
}

// edges are whole numbers about which sums, places, bits and limits turn.
func edges() []int {
	return []int{math.MinInt, math.MinInt + 1, -1 << 32, -129, -3, -2, -1, 0, 1, 2, 3, 4, 9, 10, 11, 63, 64, 127, 128, 129, 1023, 1024, 1 << 32, math.MaxInt - 1, math.MaxInt}
}

func pick[T any](r *rand.Rand, l []T) T { return l[r.Intn(len(l))] }

// right is a spot that has a form.
func right(r *rand.Rand) api.Spot {
	var s api.Spot
	if r.Intn(2) == 0 {
		s.Count = int64(r.Uint64()>>1) >> r.Intn(63)
	}
	if r.Intn(2) == 0 {
		s.A = uint16(r.Intn(1024)) >> r.Intn(10)
	}
	if r.Intn(2) == 0 {
		s.B = uint16(r.Intn(1024)) >> r.Intn(10)
	}
	if r.Intn(2) == 0 {
		s.Callee = pick(r, []int{-1, 1, 2, 3, 127, 128})
	}
	return s
}

// anySpot is a spot that need not be right.
func anySpot(r *rand.Rand) api.Spot {
	s := right(r)
	switch r.Intn(6) {
	case 0:
		s.Count = int64(pick(r, edges()))
	case 1:
		s.A = uint16(pick(r, edges()))
	case 2:
		s.B = uint16(pick(r, edges()))
	case 3:
		s.Callee = pick(r, edges())
	}
	return s
}

// drawn is a profile of a few functions, of spots that draw makes.
func drawn(r *rand.Rand, draw func(*rand.Rand) api.Spot) api.Profile {
	var f api.Profile
	for range r.Intn(4) {
		var l []api.Spot
		for range r.Intn(4) {
			l = append(l, draw(r))
		}
		f.Funcs = append(f.Funcs, l)
	}
	return f
}

// risen is a profile without a Count below 0.
func risen(f api.Profile) api.Profile {
	f = copied(f)
	for _, l := range f.Funcs {
		for pc := range l {
			l[pc].Count = max(l[pc].Count, 0)
		}
	}
	return f
}

// note is what Note is handed.
type note struct {
	fn, pc int
	args   []api.Value
	callee int
}

// someNote is a note for a small program, mostly of a place that it has.
func someNote(r *rand.Rand) note {
	n := note{fn: r.Intn(4) - r.Intn(2), pc: r.Intn(4) - r.Intn(2), callee: r.Intn(4) - 1}
	if r.Intn(10) == 0 {
		n.fn = pick(r, edges())
	}
	if r.Intn(10) == 0 {
		n.pc = pick(r, edges())
	}
	if r.Intn(10) == 0 {
		n.callee = pick(r, edges())
	}
	for range r.Intn(4) {
		k := r.Intn(10)
		if r.Intn(5) == 0 {
			k = pick(r, edges())
		}
		n.args = append(n.args, api.Value{Kind: k, N: int64(r.Intn(3))})
	}
	return n
}

func someNotes(r *rand.Rand, most int) []note {
	var l []note
	for range r.Intn(most) {
		l = append(l, someNote(r))
	}
	return l
}

// noteAll notes all of them, one behind the other.
func noteAll(b *Book, l []note) {
	for _, n := range l {
		b.Note(n.fn, n.pc, n.args, n.callee)
	}
}
