package verify

import (
	"slices"

	"portage/api"
	"portage/code"
)

// nowhere is the height of an instruction that was not met.
const nowhere = -1

// spot is an instruction, and a height at which it is met.
type spot struct {
	pc, height int
}

// function is the height of each instruction of a function, or the instruction at which it is wrong, and why.
func function(f api.Function) ([]int, int, api.Errno) {
	w := walk{f: f, floors: floors(f), idle: slices.Clone(f.Handlers)}
	w.heights = slices.Repeat([]int{nowhere}, len(f.Code))
	w.wrong = len(f.Code)
	w.meetAll()
	if w.wrong < len(f.Code) {
		return nil, w.wrong, api.ErrHeight
	}
	if pc := slices.Index(w.heights, nowhere); pc >= 0 {
		return nil, pc, api.ErrReach
	}
	// An instruction that is not met is found ahead of this one or at it, so the end is asked last.
	if last := len(f.Code) - 1; !code.Ends(f.Code[last].Op) {
		return nil, last, api.ErrReach
	}
	return w.heights, 0, api.OK
}

// floors has for each instruction how many values must be left when it has taken its own: what the handlers that hold it keep.
func floors(f api.Function) []int {
	l := make([]int, len(f.Code))
	for _, h := range f.Handlers {
		for pc := h.From; pc < h.To; pc++ {
			l[pc] = max(l[pc], h.Height)
		}
	}
	return l
}

// walk is what is found by going from instruction 0 to all that is met.
type walk struct {
	f       api.Function
	floors  []int
	idle    []api.Handler // those that hold nothing that was met till now
	heights []int         // of each instruction the first height at which it was met
	wrong   int           // the least instruction at which the stack does not fit; how many there are, if it fits
}

// meetAll meets all that can be met, at all heights: an instruction that is wrong at once does not end the search, for a lesser one may be met by a long way round.
func (w *walk) meetAll() {
	met := map[spot]struct{}{}
	var left []spot
	meet := func(pc, height int) {
		s := spot{pc, height}
		if _, known := met[s]; !known {
			met[s] = struct{}{}
			left = append(left, s)
		}
	}
	meet(0, 0)
	for len(left) > 0 {
		s := left[len(left)-1]
		left = left[:len(left)-1]
		if w.heights[s.pc] == nowhere {
			w.heights[s.pc] = s.height
			w.wake(s.pc, meet)
		}
		w.goOn(s, meet)
	}
}

// wake meets the targets of handlers that hold an instruction which was not met till now. A handler leads to one spot only, so that it is asked no more.
func (w *walk) wake(pc int, meet func(pc, height int)) {
	w.idle = slices.DeleteFunc(w.idle, func(h api.Handler) bool {
		holds := h.From <= pc && pc < h.To
		if holds {
			meet(h.Target, h.Height+1)
		}
		return holds
	})
}

// goOn looks whether the stack fits at a spot, and meets what comes next.
func (w *walk) goOn(s spot, meet func(pc, height int)) {
	i := w.f.Code[s.pc]
	takes, puts, _ := code.Effect(i)
	kept := s.height - takes
	after := kept + puts
	if s.height != w.heights[s.pc] || kept < w.floors[s.pc] || after > api.MaxHeight {
		w.wrong = min(w.wrong, s.pc)
	}
	if kept < 0 || after > api.MaxHeight {
		return
	}
	if code.Jumps(i.Op) {
		meet(int(i.A), after)
	}
	if !code.Ends(i.Op) && s.pc+1 < len(w.f.Code) {
		meet(s.pc+1, after)
	}
}
