package live

import (
	"math/bits"
	"slices"

	"portage/api"
)

// word is how many registers one number of a set holds.
const word = 64

// set is a set of registers, a bit each.
type set [api.MaxRegs / word]uint64

// register tells whether a number is that of a register.
func register(n int64) bool { return 0 <= n && n < api.MaxRegs }

// has tells whether a register is in the set; a number that is none is not.
func (s *set) has(n int64) bool { return register(n) && s[n/word]&(1<<(n%word)) != 0 }

// add puts a register into the set; a number that is none is left out.
func (s *set) add(n int64) {
	if register(n) {
		s[n/word] |= 1 << (n % word)
	}
}

// remove takes a register out of the set.
func (s *set) remove(n int64) {
	if register(n) {
		s[n/word] &^= 1 << (n % word)
	}
}

// join is the set with all that another one holds.
func (s set) join(t set) set {
	for k := range s {
		s[k] |= t[k]
	}
	return s
}

// list are the registers of the set, rising.
func (s *set) list() []int {
	var l []int
	for k, w := range s {
		for ; w != 0; w &= w - 1 {
			l = append(l, k*word+bits.TrailingZeros64(w))
		}
	}
	return l
}

// ask puts in what operands ask for.
func (s *set) ask(l []api.Opnd) {
	for _, o := range l {
		if o.Kind == api.AtReg {
			s.add(o.N)
		}
	}
}

// idle tells whether an instruction does nothing but write what is not in the set, which holds what is wanted behind it.
func (s *set) idle(x api.RIns) bool {
	return (x.Op == api.RMove || x.Op == api.RPure) && !s.has(int64(x.Dst))
}

// back makes what is wanted behind an instruction into what is wanted ahead of it.
func (s *set) back(x api.RIns) {
	if s.idle(x) {
		return
	}
	s.remove(int64(x.Dst))
	s.ask(x.Args)
	for _, f := range x.Exit {
		s.ask(f.Slots)
	}
}

// goBack makes what is wanted behind a list of instructions into what is wanted ahead of it.
func (s *set) goBack(list []api.RIns) {
	for _, x := range slices.Backward(list) {
		s.back(x)
	}
}
