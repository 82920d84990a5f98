package sample

import (
	"math"

	"portage/api"
)

// maker makes values that are right in a state of a program by the way in which they are made.
type maker struct {
	Source
	p api.Program
	s api.State
}

func (m *maker) value() api.Value {
	if n := len(m.s.Objects); n > 0 && m.Intn(4) == 0 {
		k := m.Intn(n)
		return api.Value{Kind: m.s.Objects[k].Kind, N: int64(k)}
	}
	if n := len(m.s.Texts); n > 0 && m.Intn(5) == 0 {
		return api.Value{Kind: api.Text, N: int64(m.Intn(n))}
	}
	switch m.Intn(8) {
	case 0:
		return api.Value{Kind: api.Bool, N: int64(m.Intn(2))}
	case 1:
		return api.Value{Kind: api.Real, N: someReal(m)}
	case 2:
		return api.Value{Kind: api.Func, N: int64(m.Intn(len(m.p.Funcs)))}
	case 3:
		return api.Value{}
	}
	return api.Value{Kind: api.Int, N: int64(m.Intn(12) - 3)}
}

// someReal is the bits of a right real: 0 and -0, 1.5, 3, an infinite one, or the one NaN.
func someReal(r Source) int64 {
	return one[int64](r, 0, math.MinInt64, 0x3FF8000000000000, 0x4008000000000000, 0x7FF0000000000000, 0x7FF8000000000000)
}

func (m *maker) values(n int) []api.Value {
	var l []api.Value
	for range n {
		l = append(l, m.value())
	}
	return l
}

// fill gives an object, of which the kind is known, all else.
func (m *maker) fill(o *api.Object) {
	switch o.Kind {
	case api.Array:
		o.Items = m.values(m.Intn(4))
	case api.Record:
		for k := range m.Intn(len(m.s.Texts) + 1) {
			o.Keys = append(o.Keys, int64(k))
		}
		o.Items = m.values(len(o.Keys))
	case api.Bound:
		o.Fn = m.Intn(len(m.p.Funcs))
		o.Items = m.values(m.Intn(m.p.Funcs[o.Fn].Params + 1))
	case api.Chan:
		o.Cap = 2
		o.Items = m.values(m.Intn(3))
	}
}

// State is a right state of a verified program, but for its fibers: it has none.
func State(r Source, p api.Program) api.State {
	m := maker{r, p, api.State{Steps: r.Intn(4), Spent: r.Intn(4), Read: r.Intn(3)}}
	m.s.Texts = []string{"a", "7", "x", ""}[:r.Intn(5)]
	for range r.Intn(5) {
		m.s.Objects = append(m.s.Objects, api.Object{Kind: api.Array + r.Intn(4)})
	}
	for k := range m.s.Objects {
		m.fill(&m.s.Objects[k])
	}
	return m.s
}

// Frame is a right frame at a place, in a state of a verified program.
func Frame(r Source, p api.Program, f api.Facts, s api.State, at api.Place) api.Frame {
	m := maker{r, p, s}
	return api.Frame{Fn: at.Fn, PC: at.PC, Slots: m.values(p.Funcs[at.Fn].Locals + f.Heights[at.Fn][at.PC])}
}
