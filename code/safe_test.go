package code

import (
	"math"
	"math/rand"
	"testing"

	"portage/api"
)

// isSafe is P7.7, word for word.
func isSafe(l []api.Instr, pc int) bool {
	if pc < 0 || pc >= len(l) {
		return false
	}
	switch l[pc].Op {
	case api.OpCall:
		return true
	case api.OpJump, api.OpJz, api.OpJnz:
		return l[pc].A <= int64(pc)
	}
	return false
}

func TestSafeExamples(t *testing.T) {
	for _, c := range []struct {
		i    api.Instr
		pc   int
		want bool
	}{
		{api.Instr{Op: api.OpJump, A: 0}, 0, true},
		{api.Instr{Op: api.OpJz, A: 1}, 0, false},
		{api.Instr{Op: api.OpCall, A: 99}, 0, true},
		{api.Instr{Op: api.OpCall, A: 0}, 1, false},
	} {
		if Safe([]api.Instr{c.i}, c.pc) != c.want {
			t.Error(c)
		}
	}
}

// P7.7: no place of the list, also where the list's room goes further.
func TestSafeNoPlace(t *testing.T) {
	l := make([]api.Instr, 9)
	for k := range l {
		l[k].Op = api.OpCall
	}
	for _, n := range []int{0, 1, 5} {
		for _, pc := range []int{math.MinInt, -n - 1, -1, n, n + 1, 8, 9, 1 << 40, math.MaxInt} {
			if Safe(l[:n], pc) {
				t.Error("place", pc, "of", n)
			}
		}
	}
	if Safe(nil, 0) {
		t.Error("a place of nil")
	}
}

// P7.7: each operation, and numbers that are none, with operands ahead of the place, at it, and behind it; what else is in the list is no operation.
func TestSafePlaces(t *testing.T) {
	for n := range 6 {
		for pc := -1; pc <= n; pc++ {
			for _, op := range append(noOps(), 0, 1, 4, 10, 39, 40, 41, 42, 43, 44, 45, 46, 60, 61, 62, 66) {
				for _, a := range []int64{math.MinInt64, -1, 0, 1, 2, 3, 4, 5, 6, 99, 1999, 2000, 1 << 32, math.MaxInt64} {
					l := make([]api.Instr, n)
					for k := range l {
						l[k] = api.Instr{Op: -k - 1, A: -a}
					}
					if pc >= 0 && pc < n {
						l[pc] = api.Instr{Op: op, A: a}
					}
					if Safe(l, pc) != isSafe(l, pc) {
						t.Fatal("place", pc, "of", l)
					}
				}
			}
		}
	}
}

// P7.7: long lists, beyond MaxCode too.
func TestSafeLong(t *testing.T) {
	r := rand.New(rand.NewSource(77))
	l := make([]api.Instr, 3*api.MaxCode)
	for k := range l {
		l[k] = api.Instr{Op: r.Intn(70) - 1, A: int64(k + r.Intn(5) - 2)}
	}
	for pc := range l {
		if Safe(l, pc) != isSafe(l, pc) {
			t.Fatal("place", pc, l[pc])
		}
	}
}
