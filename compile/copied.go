package compile

import (
	"slices"

	"portage/api"
)

// copiedProgram is a program in memory of its own.
func copiedProgram(p api.Program) api.Program {
	p.Consts, p.Funcs = slices.Clone(p.Consts), slices.Clone(p.Funcs)
	for k := range p.Funcs {
		f := &p.Funcs[k]
		f.Code, f.Handlers = slices.Clone(f.Code), slices.Clone(f.Handlers)
	}
	return p
}

// copiedFacts are facts in memory of their own.
func copiedFacts(f api.Facts) api.Facts {
	f.Heights, f.Most = slices.Clone(f.Heights), slices.Clone(f.Most)
	for k := range f.Heights {
		f.Heights[k] = slices.Clone(f.Heights[k])
	}
	return f
}

// copiedCode is register code in memory of its own.
func copiedCode(c api.Code) api.Code {
	c.Blocks = slices.Clone(c.Blocks)
	for k := range c.Blocks {
		b := &c.Blocks[k]
		b.Ins, b.Next = slices.Clone(b.Ins), slices.Clone(b.Next)
		for j := range b.Ins {
			i := &b.Ins[j]
			i.Args, i.Exit = slices.Clone(i.Args), slices.Clone(i.Exit)
			for s := range i.Exit {
				i.Exit[s].Slots = slices.Clone(i.Exit[s].Slots)
			}
		}
	}
	return c
}
