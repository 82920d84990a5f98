package ops

import (
	"fmt"
	"math"
	"strings"
	"testing"

	"portage/api"
	"portage/heap"
	"portage/intern"
)

func whole(n int64) api.Value        { return api.Value{Kind: api.Int, N: n} }
func bits(n uint64) api.Value        { return api.Value{Kind: api.Real, N: int64(n)} }
func float(x float64) api.Value      { return bits(math.Float64bits(x)) }
func text(n int) api.Value           { return named(api.Text, n) }
func truth(n int64) api.Value        { return api.Value{Kind: api.Bool, N: n} }
func named(kind, n int) api.Value    { return api.Value{Kind: kind, N: int64(n)} }
func row(l ...api.Value) []api.Value { return l }
func op(n int) api.Instr             { return api.Instr{Op: n} }
func opA(n int, a int64) api.Instr   { return api.Instr{Op: n, A: a} }

const (
	minInt, maxInt = math.MinInt64, math.MaxInt64
	oneNaN         = 0x7ff8000000000000
)

// rich is a world with something of every kind, of which all is right; 100 are spent.
func rich(left int) *model {
	return &model{
		p: api.Program{
			Consts: []api.Const{{Kind: api.Text, Text: "k"}, {Kind: api.Real, N: 5}, {Kind: api.Text, Text: "new"}, {Kind: api.Text}},
			Funcs:  []api.Function{{Name: "main"}, {Name: "f", Params: 2, Locals: 2}, {Name: "many", Params: 64, Locals: 64}, {}},
		},
		budget: 100 + left, spent: 100,
		texts: []string{"", "a", "ab", "12", "-7", "1.5", "k", "nan", "x\xff\x00y", "9223372036854775808", "array(2)", strings.Repeat("z", 4096)},
		objects: []api.Object{
			{Kind: api.Array, Items: row(whole(7), named(api.Array, 0))},
			{Kind: api.Record, Keys: []int64{6, 1}, Items: row(truth(1), float(2))},
			{Kind: api.Bound, Fn: 1, Items: row(whole(3))},
			{Kind: api.Chan, Cap: 2, Items: row(text(1))},
			{Kind: api.Chan, Cap: 1, Shut: true},
			{Kind: api.Bound, Fn: 77},
			{Kind: api.Array},
			{Kind: api.Record},
			{Kind: api.Bound, Fn: 1, Items: row(whole(3), api.Value{}, api.Value{})},
		},
	}
}

// values are of all kinds, and of none; right ones of the rich world and others.
func values() []api.Value {
	l := few()
	for _, n := range []int64{2, 3, 8, 31, 63, 65, 200, -56, 1 << 31, 1 << 32, 1<<53 + 1, -1 << 53, minInt + 1} {
		l = append(l, whole(n))
	}
	for _, x := range []float64{1, -2.9, 1 << 53, 1 << 63, -1 << 63, 1e300, 5e-324, math.Inf(-1)} {
		l = append(l, float(x))
	}
	for _, n := range []int{0, 3, 4, 5, 6, 7, 8, 9, 10, -1, 99, maxInt} {
		l = append(l, text(n))
	}
	for _, n := range []int{-1, 0, 2, 3, 4, maxInt} {
		l = append(l, named(api.Func, n))
	}
	for kind := api.Array; kind <= api.Chan; kind++ {
		for n := -1; n <= 9; n++ {
			l = append(l, named(kind, n))
		}
	}
	return append(l, bits(0xfff8000000000000), bits(0x7ff0000000000001), named(0, 5), truth(-3), named(-1, 0), named(77, 0), named(minInt, minInt), named(maxInt, 1))
}

// few are some of each.
func few() []api.Value {
	return row(api.Value{}, truth(0), truth(1), truth(7),
		whole(0), whole(1), whole(-1), whole(64), whole(4096), whole(minInt), whole(maxInt),
		float(0), float(math.Copysign(0, -1)), float(0.5), float(math.Inf(1)), bits(oneNaN),
		text(1), text(2), text(11), text(12),
		named(api.Func, 1), named(api.Func, 4),
		named(api.Array, 0), named(api.Record, 1), named(api.Bound, 2), named(api.Chan, 3), named(api.Chan, 4), named(api.Array, 3),
		named(10, 0))
}

// instrs are all instructions that may be done, with some operands each.
func instrs() (l []api.Instr) {
	for n := range api.Ops {
		switch n {
		case api.OpExt:
			l = append(l, opA(n, 8), opA(n, 16), opA(n, 32))
		case api.OpChan:
			l = append(l, opA(n, 1), opA(n, 2), opA(n, 63), opA(n, 64))
		case api.OpGetf, api.OpSetf, api.OpHasf, api.OpDelf:
			for a := range int64(5) {
				l = append(l, opA(n, a))
			}
			l = append(l, opA(n, 511))
		case api.OpBind, api.OpArray:
			for a := range int64(4) {
				l = append(l, opA(n, a))
			}
		default:
			if applies(n) {
				l = append(l, op(n))
			}
		}
	}
	return l
}

// told is what an answer was.
func told(v api.Value, trap int, room bool) string {
	return fmt.Sprintf("%v, trap %d, %v", v, trap, room)
}

// both does an instruction in a world and in its model, and holds what comes of it against each other.
func both(t *testing.T, w *World, m *model, i api.Instr, args []api.Value) (api.Value, int, bool) {
	t.Helper()
	want := told(m.apply(i, args))
	v, trap, room := Apply(w, i, args)
	if told(v, trap, room) != want {
		t.Fatalf("%v of %v, with %d of %d spent: %s, not %s", i, args, m.spent, m.budget, told(v, trap, room), want)
	}
	if !m.holds(w) {
		t.Fatalf("%v of %v (%s): the world is not as it should be", i, args, want)
	}
	return v, trap, room
}

// bare is a world without objects.
func bare(budget int, texts ...string) *World {
	x, _ := intern.From(texts...)
	return &World{Program: rich(0).p, Heap: heap.New(budget, 0), Texts: x}
}
