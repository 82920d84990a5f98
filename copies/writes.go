package copies

import "portage/api"

// none is the Dst of what writes no register.
const none = -1

// write is what was written into a register.
type write struct {
	at    int      // the place in the new list
	moves bool     // whether it was moved there
	from  api.Opnd // from where
}

// writes are the last ones of a block, by the registers that were written.
type writes map[api.Opnd]write

// source is what an operand is known as; itself, if it is known as nothing. Whether the source was written since is told by the places of the two writes, so that a write need not look for all that was moved from its register.
func (w writes) source(o api.Opnd) api.Opnd {
	last := w[o]
	if !last.moves || w[last.from].at > last.at {
		return o
	}
	return last.from
}

// moved is what an instruction moves into its register; false: it moves nothing.
func moved(x api.RIns) (api.Opnd, bool) {
	if x.Op != api.RMove || len(x.Args) != 1 || x.Dst == none {
		return api.Opnd{}, false
	}
	return x.Args[0], true
}

// register is a register as an operand.
func register(k int) api.Opnd { return api.Opnd{Kind: api.AtReg, N: int64(k)} }
