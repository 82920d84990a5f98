package profile

import (
	"math"
	"math/big"

	"portage/api"
)

// The slow models: each promise by the chapter's words.

// slowAt is P18.1: every spot is looked at.
func slowAt(f api.Profile, fn, pc int) api.Spot {
	for k, l := range f.Funcs {
		for i, s := range l {
			if k == fn && i == pc {
				return s
			}
		}
	}
	return api.Spot{}
}

// slowCallee is two Callees together.
func slowCallee(a, b int) int {
	if a == 0 {
		return b
	}
	if b == 0 {
		return a
	}
	if a == b {
		return a
	}
	return -1
}

// slowCount is two counts together, by numbers of any size.
func slowCount(a, b int64) int64 {
	n := new(big.Int).Add(big.NewInt(a), big.NewInt(b))
	if n.Cmp(big.NewInt(math.MaxInt64)) > 0 {
		return math.MaxInt64
	}
	if n.Cmp(big.NewInt(math.MinInt64)) < 0 {
		return math.MinInt64
	}
	return n.Int64()
}

// slowBits are the bits that one or the other has.
func slowBits(a, b uint16) uint16 {
	var n uint16
	for bit := uint16(1); bit != 0; bit *= 2 {
		if a/bit%2 == 1 || b/bit%2 == 1 {
			n += bit
		}
	}
	return n
}

// slowTogether is two spots together.
func slowTogether(x, y api.Spot) api.Spot {
	return api.Spot{
		Count:  slowCount(x.Count, y.Count),
		A:      slowBits(x.A, y.A),
		B:      slowBits(x.B, y.B),
		Callee: slowCallee(x.Callee, y.Callee),
	}
}

// slowMerge is P18.4.
func slowMerge(a, b api.Profile) api.Profile {
	var f api.Profile
	for fn := 0; fn < len(a.Funcs) || fn < len(b.Funcs); fn++ {
		var l []api.Spot
		for pc := 0; fn < len(a.Funcs) && pc < len(a.Funcs[fn]) || fn < len(b.Funcs) && pc < len(b.Funcs[fn]); pc++ {
			l = append(l, slowTogether(slowAt(a, fn, pc), slowAt(b, fn, pc)))
		}
		f.Funcs = append(f.Funcs, l)
	}
	return f
}

// slowHot is P18.5: the first of those that are left is taken out again and again.
func slowHot(f api.Profile, least int64) []int {
	var l []int
	taken := map[int]int{}
	for {
		best := -1
		for fn := range f.Funcs {
			n := slowAt(f, fn, 0).Count
			if taken[fn] == 0 && n >= least && (best < 0 || n > slowAt(f, best, 0).Count) {
				best = fn
			}
		}
		if best < 0 {
			return l
		}
		taken[best] = 1
		l = append(l, best)
	}
}

// slowBook is P18.2 and P18.3: the profile that it holds.
type slowBook struct{ f api.Profile }

func newSlowBook(p api.Program, from api.Profile) *slowBook {
	b := &slowBook{}
	for fn := range p.Funcs {
		var l []api.Spot
		for pc := range p.Funcs[fn].Code {
			l = append(l, slowAt(from, fn, pc))
		}
		b.f.Funcs = append(b.f.Funcs, l)
	}
	return b
}

func (b *slowBook) note(n note) {
	bit := func(k int) uint16 {
		if k < 0 || n.args[k].Kind < 0 || n.args[k].Kind > 9 {
			return 0
		}
		return []uint16{1, 2, 4, 8, 16, 32, 64, 128, 256, 512}[n.args[k].Kind]
	}
	for fn, l := range b.f.Funcs {
		for pc := range l {
			if fn == n.fn && pc == n.pc {
				seen := api.Spot{Count: 1, A: bit(len(n.args) - 1), B: bit(len(n.args) - 2), Callee: n.callee}
				l[pc] = slowTogether(l[pc], seen)
			}
		}
	}
}
