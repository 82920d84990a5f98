package live

import (
	"slices"

	"portage/api"
	"portage/sample"
)

// The chapter's words, one thing after the other, slowly.

// asks tells whether an instruction asks for a register.
func asks(x api.RIns, r int) bool {
	it := reg(r)
	return slices.Contains(x.Args, it) || slices.ContainsFunc(x.Exit, func(s api.Shape) bool { return slices.Contains(s.Slots, it) })
}

// quiet tells whether an instruction does nothing but write.
func quiet(x api.RIns) bool { return x.Op == api.RMove || x.Op == api.RPure }

// row tells of each register whether it is wanted at a place.
type row [api.MaxRegs]bool

// holds tells whether a number is that of a register which is wanted.
func (w row) holds(r int) bool { return r >= 0 && r < api.MaxRegs && w[r] }

// list are the registers that are wanted, rising.
func (w row) list() []int {
	var l []int
	for r, ok := range w {
		if ok {
			l = append(l, r)
		}
	}
	return l
}

// rows are what is wanted ahead of the blocks of a code, ahead of the instructions of each, and behind them.
type rows struct {
	c             api.Code
	block         []row
	ahead, behind [][]row
	regs          []int // all that are asked for anywhere
	more          bool
}

// wants are the rows of a code, by the rules alone: each is asked again and again, until none says anything new.
func wants(c api.Code) *rows {
	w := &rows{c: c, block: make([]row, len(c.Blocks)), more: true}
	var some row
	for _, b := range c.Blocks {
		w.ahead, w.behind = append(w.ahead, make([]row, len(b.Ins))), append(w.behind, make([]row, len(b.Ins)))
		for _, x := range b.Ins {
			for _, o := range operands(x) {
				if o.Kind == api.AtReg && o.N >= 0 && o.N < api.MaxRegs {
					some[o.N] = true
				}
			}
		}
	}
	w.regs = some.list()
	for w.more {
		w.more = false
		for k := len(c.Blocks) - 1; k >= 0; k-- {
			for j := len(c.Blocks[k].Ins) - 1; j >= 0; j-- {
				w.rules(k, j)
			}
			w.blockRule(k)
		}
	}
	return w
}

// claim says that a register is wanted at a place, if so.
func (w *rows) claim(place *row, r int, so bool) {
	if so && !place[r] {
		place[r], w.more = true, true
	}
}

// rules asks the rules for an instruction.
func (w *rows) rules(k, j int) {
	b := w.c.Blocks[k]
	x, ahead, behind := b.Ins[j], &w.ahead[k][j], &w.behind[k][j]
	for _, r := range w.regs {
		if j+1 < len(b.Ins) {
			w.claim(behind, r, w.ahead[k][j+1][r])
		} else {
			w.claim(behind, r, w.aheadOfNext(b, r))
		}
		w.claim(ahead, r, behind[r] && x.Dst != r)
	}
	for _, r := range w.regs {
		w.claim(ahead, r, (!quiet(x) || behind.holds(x.Dst)) && asks(x, r))
	}
}

// aheadOfNext tells whether a register is wanted ahead of a block that is one of a block's Next.
func (w *rows) aheadOfNext(b api.Block, r int) bool {
	return slices.ContainsFunc(b.Next, func(to int) bool { return to >= 0 && to < len(w.block) && w.block[to][r] })
}

// blockRule asks the rule for a block.
func (w *rows) blockRule(k int) {
	b := w.c.Blocks[k]
	for _, r := range w.regs {
		if len(b.Ins) > 0 {
			w.claim(&w.block[k], r, w.ahead[k][0][r])
		} else {
			w.claim(&w.block[k], r, w.aheadOfNext(b, r))
		}
	}
}

// idle tells whether an instruction of the code is.
func (w *rows) idle(k, j int) bool {
	x := w.c.Blocks[k].Ins[j]
	return quiet(x) && !w.behind[k][j].holds(x.Dst)
}

// meant is Run's answer.
func (w *rows) meant() api.Code {
	out := sample.Copied(w.c)
	for k, b := range w.c.Blocks {
		out.Blocks[k].Ins = nil
		for j, x := range b.Ins {
			if !w.idle(k, j) {
				out.Blocks[k].Ins = append(out.Blocks[k].Ins, x)
			}
		}
	}
	return out
}

// spot is where an instruction stands; with the number of as many as the block has, behind them all.
type spot struct {
	block, ins int
}

// asked tells whether a register is asked for on some way from a spot on, ahead of any instruction on that way that writes it.
func asked(c api.Code, from spot, r int) bool {
	ways, met := []spot{from}, map[spot]bool{}
	for len(ways) > 0 {
		s := ways[0]
		ways = ways[1:]
		if met[s] {
			continue
		}
		met[s] = true
		b := c.Blocks[s.block]
		switch {
		case s.ins == len(b.Ins):
			for _, to := range b.Next {
				if to >= 0 && to < len(c.Blocks) {
					ways = append(ways, spot{to, 0})
				}
			}
		case asks(b.Ins[s.ins], r):
			return true
		case b.Ins[s.ins].Dst != r:
			ways = append(ways, spot{s.block, s.ins + 1})
		}
	}
	return false
}
