package guess

import (
	"slices"
	"strings"

	"portage/api"
	"portage/code"
)

// The chapter's words, one thing after the other, slowly.

// on are the names of the operations on numbers of one kind, and how many values each takes.
func on(kind int) map[string]int {
	one, two := "neg not", "add sub mul and or xor bic lt le"
	if kind == api.Real {
		one, two = "neg sqrt floor single", "add sub mul div lt le"
	}
	m := map[string]int{}
	for _, name := range strings.Fields(one) {
		m[name] = 1
	}
	for _, name := range strings.Fields(two) {
		m[name] = 2
	}
	return m
}

// kinds are those whose bits are in a set.
func kinds(bits uint16) []int {
	var l []int
	for k := range 16 {
		if bits>>k&1 == 1 {
			l = append(l, k)
		}
	}
	return l
}

// meantKind is Kind's answer.
func meantKind(op int, s api.Spot) int {
	name, _ := code.Name(op)
	for _, kind := range []int{api.Int, api.Real} {
		takes, there := on(kind)[name]
		if there && slices.Equal(kinds(s.A), []int{kind}) && (takes == 1 || slices.Equal(kinds(s.B), []int{kind})) {
			return kind
		}
	}
	return -1
}

// spot is what a profile has at a place.
func spot(f api.Profile, fn, pc int) api.Spot {
	for k, l := range f.Funcs {
		for j, s := range l {
			if k == fn && j == pc {
				return s
			}
		}
	}
	return api.Spot{}
}

// meantIns is what becomes of one instruction.
func meantIns(x api.RIns, prof api.Profile) []api.RIns {
	if x.Op != api.RPlain || len(x.Exit) == 0 {
		return []api.RIns{x}
	}
	last := x.Exit[len(x.Exit)-1]
	k := meantKind(x.Code, spot(prof, last.Fn, last.PC))
	name, _ := code.Name(x.Code)
	if k == -1 || on(k)[name] != len(x.Args) {
		return []api.RIns{x}
	}
	var l []api.RIns
	for j, o := range x.Args {
		g := api.RIns{Op: api.RGuard, Code: 0, Dst: -1, Args: opnds(o), N: int64(k), PC: x.PC, Exit: x.Exit}
		if j == len(x.Args)-1 {
			g.Need = x.Need
		}
		l = append(l, g)
	}
	return append(l, api.RIns{Op: api.RPure, Code: x.Code, Dst: x.Dst, Args: x.Args, N: int64(k), PC: x.PC})
}

// meant is Run's answer.
func meant(c api.Code, prof api.Profile) api.Code {
	out := api.Code{Fn: c.Fn, Regs: c.Regs}
	for _, b := range c.Blocks {
		n := api.Block{PC: b.PC, Next: b.Next}
		for _, x := range b.Ins {
			n.Ins = append(n.Ins, meantIns(x, prof)...)
		}
		out.Blocks = append(out.Blocks, n)
	}
	return out
}
