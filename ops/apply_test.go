package ops

import (
	"fmt"
	"math"
	"math/rand"
	"slices"
	"strings"
	"testing"

	"portage/api"
	"portage/code"
)

// The chapter's examples, one call behind the other.
func TestExamples(t *testing.T) {
	w := bare(10, "a", "ab")
	a, ab, r := text(0), text(1), named(api.Record, 1)
	for k, c := range []struct {
		i     api.Instr
		args  []api.Value
		want  string
		spent int
	}{
		{op(api.OpAdd), row(whole(maxInt), whole(1)), told(whole(minInt), 0, true), 0},
		{op(api.OpAdd), row(whole(1), float(0.5)), told(float(1.5), 0, true), 0},
		{op(api.OpDiv), row(whole(-7), whole(2)), told(whole(-3), 0, true), 0},
		{op(api.OpRem), row(whole(-7), whole(2)), told(whole(-1), 0, true), 0},
		{op(api.OpDiv), row(whole(1), whole(0)), told(api.Value{}, api.TrapDivide, true), 0},
		{op(api.OpDiv), row(float(1), whole(0)), told(float(math.Inf(1)), 0, true), 0},
		{op(api.OpShr), row(whole(-1), whole(100)), told(whole(-1), 0, true), 0},
		{op(api.OpShl), row(whole(1), whole(-1)), told(api.Value{}, api.TrapRange, true), 0},
		{opA(api.OpExt, 8), row(whole(200)), told(whole(-56), 0, true), 0},
		{op(api.OpEq), row(whole(1), float(1)), told(truth(1), 0, true), 0},
		{op(api.OpEq), row(whole(1), truth(1)), told(truth(0), 0, true), 0},
		{op(api.OpEq), row(bits(oneNaN), bits(oneNaN)), told(truth(0), 0, true), 0},
		{op(api.OpLt), row(a, ab), told(truth(1), 0, true), 0},
		{op(api.OpLt), row(a, whole(1)), told(api.Value{}, api.TrapType, true), 0},
		{op(api.OpCat), row(a, ab), told(text(2), 0, true), 4},
		{op(api.OpCut), row(ab, whole(1), whole(3)), told(api.Value{}, api.TrapIndex, true), 4},
		{opA(api.OpBind, 1), row(named(api.Func, 1), whole(7)), told(named(api.Bound, 0), 0, true), 7},
		{opA(api.OpBind, 2), row(named(api.Bound, 0), api.Value{}, api.Value{}), told(api.Value{}, api.TrapArity, true), 7},
		{op(api.OpRecord), nil, told(r, 0, true), 9},
		{op(api.OpSetf), row(r, api.Value{}), told(api.Value{}, 0, false), 9},
		{op(api.OpGetf), row(r), told(api.Value{}, api.TrapKey, true), 9},
		{op(api.OpToText), row(whole(12)), told(api.Value{}, 0, false), 9},
		{op(api.OpGet), row(ab, whole(1)), told(whole(98), 0, true), 9},
	} {
		if got := told(Apply(w, c.i, c.args)); got != c.want || w.Heap.Spent() != c.spent {
			t.Errorf("call %d: %s, not %s; %d spent, not %d", k, got, c.want, w.Heap.Spent(), c.spent)
		}
	}
	if !slices.Equal(w.Texts.Items(), []string{"a", "ab", "aab"}) || w.Heap.Len() != 2 {
		t.Error("the world is", w.Texts.Items(), w.Heap.Len())
	}
}

// rows are all rows of n of these values.
func rows(l []api.Value, n int) [][]api.Value {
	out := [][]api.Value{nil}
	for range n {
		var longer [][]api.Value
		for _, r := range out {
			for _, v := range l {
				longer = append(longer, append(slices.Clone(r), v))
			}
		}
		out = longer
	}
	return out
}

// argsFor are rows of values for an instruction: the more it takes, the fewer kinds of them.
func argsFor(i api.Instr) [][]api.Value {
	takes, _, _ := code.Effect(i)
	var l [][]api.Value
	switch takes {
	case 0, 1:
		return rows(values(), takes)
	case 2:
		for _, a := range few() {
			for _, b := range values() {
				l = append(l, row(a, b), row(b, a))
			}
		}
		return l
	case 3:
		return rows(few(), 3)
	}
	for _, v := range values() {
		r := make([]api.Value, takes)
		r[0], r[takes-1] = v, whole(4)
		l = append(l, r)
	}
	return l
}

// changes tells whether an operation changes something that costs nothing.
func changes(n int) bool {
	return n == api.OpSet || n == api.OpSetf || n == api.OpDelf || n == api.OpShut
}

// P13.1, and the chapter's tables: every operation of values of all kinds, where there is room, where there is just as much as it costs, 1 less, and none at all (P13.10).
func TestApply(t *testing.T) {
	for _, i := range instrs() {
		t.Run(fmt.Sprint(i), func(t *testing.T) {
			t.Parallel()
			inEveryRoom(t, i)
		})
	}
}

func inEveryRoom(t *testing.T, i api.Instr) {
	w, m, full, fullModel := rich(9999).world(t), rich(9999), rich(0).world(t), rich(0)
	for _, args := range argsFor(i) {
		_, trap, room := both(t, w, m, i, args)
		cost := m.spent - 100
		if cost == 0 {
			if _, again, done := both(t, full, fullModel, i, args); again != trap || done != room {
				t.Fatalf("%v of %v, with no room: trap %d, %v", i, args, again, done)
			}
		}
		for _, left := range []int{0, cost - 1, cost} {
			if cost == 0 {
				break
			}
			if _, again, done := both(t, rich(left).world(t), rich(left), i, args); again != 0 || done != (left == cost) {
				t.Fatalf("%v of %v, with room for %d: trap %d, %v", i, args, left, again, done)
			}
		}
		if cost > 0 || changes(i.Op) && trap == 0 {
			w, m, full, fullModel = rich(9999).world(t), rich(9999), rich(0).world(t), rich(0)
		}
	}
}

// Where more is spent than there is, what costs nothing is done, what costs isn't, and what traps traps.
func TestMoreSpentThanThereIs(t *testing.T) {
	for _, i := range instrs() {
		for _, args := range argsFor(i) {
			if len(args) < 2 || args[1] == whole(0) || args[1] == text(2) {
				m := rich(-3)
				both(t, m.world(t), m, i, args)
			}
		}
	}
}

// P13.1: what isn't asked rightly is answered by false, and nothing has changed.
func TestNotAsked(t *testing.T) {
	m := rich(9999)
	w := m.world(t)
	none := func(i api.Instr, args []api.Value) {
		t.Helper()
		if got := told(Apply(w, i, args)); got != told(api.Value{}, 0, false) || !m.holds(w) {
			t.Errorf("%v of %v: %s", i, args, got)
		}
	}
	some := row(named(api.Record, 1), whole(0), whole(0), whole(1), whole(2))
	for _, n := range []int{minInt, -1, 0, 1, 5, 11, 40, 41, 43, 44, 45, 58, 59, 60, 61, 63, 64, 67, 68, 100, maxInt} {
		for a := range int64(3) {
			for k := range some {
				none(opA(n, a), some[:k])
			}
		}
	}
	for _, i := range instrs() {
		takes, _, _ := code.Effect(i)
		for k := range some {
			if k != takes {
				none(i, some[:k])
			}
		}
		none(i, make([]api.Value, 65))
	}
	for n := range api.Ops {
		for _, a := range []int64{minInt, -1, 1, 3, 7, 9, 24, 64, 65, 128, 512, 4096, 1 << 32, maxInt} {
			if code.Check(opA(n, a)) != api.OK {
				for k := range some {
					none(opA(n, a), some[:k])
				}
			}
		}
	}
	for n := api.OpGetf; n <= api.OpDelf; n++ {
		for _, a := range []int64{1, 4, 5, 511} { // no text; no constant
			none(opA(n, a), some[:1])
			none(opA(n, a), some[:2])
		}
	}
}

// A constant of whatever kind that isn't Text is no text, whatever else it has; and a program may have none.
func TestNoKey(t *testing.T) {
	for _, kind := range []int{api.Nil, api.Bool, api.Int, api.Real, api.Func, api.Array, -1, 77} {
		w := rich(9).world(t)
		w.Program.Consts = []api.Const{{Kind: kind, Text: "k"}}
		if got := told(Apply(w, op(api.OpHasf), row(named(api.Record, 1)))); got != told(api.Value{}, 0, false) {
			t.Errorf("a key of kind %d: %s", kind, got)
		}
	}
	w := rich(9).world(t)
	w.Program = api.Program{}
	for _, i := range instrs() {
		for _, args := range argsFor(i)[:1] {
			Apply(w, i, args)
		}
	}
	if _, trap, _ := Apply(w, op(api.OpBind), row(named(api.Func, 0))); trap != api.TrapType {
		t.Error("bind without functions", trap)
	}
}

// P13.2: which operations there are.
func TestWhichThereAre(t *testing.T) {
	for n := -5; n < 200; n++ {
		if Applies(n) != applies(n) {
			t.Errorf("Applies(%d) = %v", n, Applies(n))
		}
		if Pure(n) != (n == 25 || n == 26 || n == 29 || n == 30) {
			t.Errorf("Pure(%d) = %v", n, Pure(n))
		}
	}
	for _, n := range []int{minInt, maxInt, 1 << 32, 1<<32 + 25} {
		if Applies(n) || Pure(n) {
			t.Errorf("there is %d", n)
		}
	}
}

// somewhere is a value that may lie in the world, now and then one that may not.
func somewhere(r *rand.Rand, m *model) api.Value {
	switch r.Intn(12) {
	case 0:
		return values()[r.Intn(len(values()))]
	case 1, 2, 3:
		return whole(int64(r.Intn(6) - 1))
	case 4:
		return float(float64(r.Intn(9)-4) / 2)
	case 5, 6:
		return text(r.Intn(1 + len(m.texts)))
	case 7:
		return named(api.Func, r.Intn(4))
	}
	if len(m.objects) == 0 {
		return api.Value{}
	}
	n := r.Intn(len(m.objects))
	return named(m.objects[n].Kind, n)
}

// Long rows of operations in one world, until there is no room any more and on from there.
func TestRows(t *testing.T) {
	l := instrs()
	for seed := range int64(150) {
		r := rand.New(rand.NewSource(seed))
		m := rich(r.Intn(400))
		if seed%3 == 0 {
			m.texts, m.objects = nil, nil
		}
		w := m.world(t)
		for range 300 {
			i := l[r.Intn(len(l))]
			takes, _, _ := code.Effect(i)
			args := make([]api.Value, takes)
			for k := range args {
				args[k] = somewhere(r, m)
			}
			both(t, w, m, i, args)
		}
	}
}

// The limits of what is made by operations: fields, items, and texts.
func TestLimits(t *testing.T) {
	m := rich(1 << 20)
	m.p.Consts = nil
	for k := range 257 {
		m.p.Consts = append(m.p.Consts, api.Const{Kind: api.Text, Text: strings.Repeat("+", k)})
	}
	w := m.world(t)
	for k := range int64(256) {
		both(t, w, m, opA(api.OpSetf, k), row(named(api.Record, 7), whole(k)))
	}
	for _, k := range []int64{256, 0, 255} { // a new one traps, and its text doesn't come; the old ones are set
		both(t, w, m, opA(api.OpSetf, k), row(named(api.Record, 7), whole(-k)))
	}
	if _, is := w.Texts.Find(strings.Repeat("+", 256)); is || w.Texts.Len() != 12+255 {
		t.Error(w.Texts.Len(), "texts")
	}
	both(t, w, m, op(api.OpKeys), row(named(api.Record, 7)))
	for range 4097 {
		Apply(w, op(api.OpPush), row(named(api.Array, 6), whole(1)))
	}
	if n, trap, _ := Apply(w, op(api.OpLen), row(named(api.Array, 6))); n != whole(4096) || trap != 0 {
		t.Error("an array of", n)
	}
	if _, trap, room := Apply(w, op(api.OpPush), row(named(api.Array, 6), whole(1))); trap != api.TrapRange || !room {
		t.Error("push into a full array", trap, room)
	}
	for _, n := range []int64{0, 1, 62, 63} {
		args := make([]api.Value, n)
		v, trap, room := Apply(w, opA(api.OpArray, n), args)
		if size, _ := w.Heap.Size(v); size != n || trap != 0 || !room {
			t.Errorf("array %d: %d %d %v", n, size, trap, room)
		}
	}
}
