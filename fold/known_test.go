package fold

import (
	"slices"
	"testing"

	"portage/api"
	"portage/code"
	"portage/ops"
	"portage/sample"
)

// P23.1: what is known of a register behind some instructions.
func TestKnown(t *testing.T) {
	p := given(t)
	const unknown = -1
	is := func(kind, r int) api.RIns { return guard(kind, 0, reg(r)) }
	add := func(l ...api.Opnd) api.RIns { return plain(ins(api.OpAdd), 5, 1, l...) }
	for _, x := range []struct {
		name string
		list []api.RIns
		want int
	}{
		{"nothing ahead", nil, unknown},
		{"a move of nil", []api.RIns{move(5, null())}, api.Nil},
		{"a move of a bool", []api.RIns{move(5, truth(1))}, api.Bool},
		{"a move of an int", []api.RIns{move(5, whole(1))}, api.Int},
		{"a move of a real", []api.RIns{move(5, bits(nan))}, api.Real},
		{"a move of a constant", []api.RIns{move(5, at(api.AtConst, 0))}, api.Real},
		{"a move of a text", []api.RIns{move(5, at(api.AtConst, 1))}, api.Text},
		{"a move of a function", []api.RIns{move(5, at(api.AtFunc, 1))}, api.Func},
		{"a move of a register", []api.RIns{move(5, reg(6))}, unknown},
		{"a move of a known register", []api.RIns{is(api.Array, 6), move(5, reg(6))}, api.Array},
		{"moved on and on", []api.RIns{move(7, whole(1)), move(6, reg(7)), move(5, reg(6))}, api.Int},
		{"the source known later", []api.RIns{move(5, reg(6)), is(api.Array, 6)}, unknown},
		{"the source written later", []api.RIns{is(api.Array, 6), move(5, reg(6)), move(6, null())}, api.Array},
		{"a move onto itself", []api.RIns{is(api.Array, 5), move(5, reg(5))}, api.Array},
		{"written by a move", []api.RIns{is(api.Array, 5), move(5, reg(6))}, unknown},
		{"written by a move of another kind", []api.RIns{move(5, whole(1)), move(5, null())}, api.Nil},
		{"swapped", []api.RIns{is(api.Int, 5), is(api.Real, 6), move(7, reg(5)), move(5, reg(6)), move(6, reg(7))}, api.Real},
		{"another register", []api.RIns{is(api.Array, 6), move(4, null())}, unknown},
		{"a guard", []api.RIns{is(api.Nil, 5)}, api.Nil},
		{"a guard, and another register written", []api.RIns{is(api.Chan, 5), move(6, null())}, api.Chan},
		{"a guard's copy", []api.RIns{move(6, reg(5)), is(api.Chan, 6)}, unknown},
		{"a guard of a known value", []api.RIns{guard(api.Int, 0, whole(5))}, unknown},
		{"a callee", []api.RIns{callee(1, 0, reg(5))}, api.Func},
		{"a callee, by its number", []api.RIns{callee(1, 0, at(api.AtFunc, 1))}, unknown},
		{"pure", []api.RIns{pure(api.OpEq, 0, 5, reg(6), reg(7))}, api.Bool},
		{"pure, of itself", []api.RIns{is(api.Int, 5), pure(api.OpTest, 0, 5, reg(5))}, api.Bool},
		{"pure, of an int", []api.RIns{pure(api.OpAdd, api.Int, 5, reg(6), reg(7))}, api.Int},
		{"pure, of a real", []api.RIns{pure(api.OpNeg, api.Real, 5, reg(6))}, api.Real},
		{"lt of ints", []api.RIns{pure(api.OpLt, api.Int, 5, reg(6), reg(7))}, api.Bool},
		{"le of reals", []api.RIns{pure(api.OpLe, api.Real, 5, reg(6), reg(7))}, api.Bool},
		{"what became a move", []api.RIns{pure(api.OpAdd, api.Int, 5, whole(6), null())}, api.Nil},
		{"what became a move of a real", []api.RIns{add(whole(1), bits(one))}, api.Real},
		{"what became a move, and was copied", []api.RIns{plain(ins(api.OpEq), 6, 1, null(), null()), move(5, reg(6))}, api.Bool},
		{"a point", []api.RIns{is(api.Text, 5), point(2)}, api.Text},
		{"print", []api.RIns{is(api.Text, 5), plain(ins(api.OpPrint), -1, 1, reg(5))}, api.Text},
		{"push", []api.RIns{is(api.Array, 5), plain(ins(api.OpPush), -1, 1, reg(5), reg(6))}, api.Array},
		{"read", []api.RIns{is(api.Text, 5), plain(ins(api.OpRead), 5, 1)}, unknown},
		{"get", []api.RIns{is(api.Text, 5), plain(ins(api.OpGet), 5, 1, reg(5), whole(0))}, unknown},
		{"a sum", []api.RIns{is(api.Int, 6), add(reg(6), reg(6))}, api.Int},
		{"a sum of itself", []api.RIns{is(api.Real, 5), add(reg(5), whole(1))}, api.Real},
		{"a sum with a constant", []api.RIns{is(api.Int, 6), add(at(api.AtConst, 0), reg(6))}, api.Real},
		{"a sum with a text", []api.RIns{is(api.Int, 6), add(at(api.AtConst, 1), reg(6))}, unknown},
		{"a sum of what isn't known", []api.RIns{is(api.Int, 5), add(reg(5), reg(6))}, unknown},
		{"a sum that traps", []api.RIns{is(api.Int, 5), add(null(), whole(1))}, unknown},
		{"what traps, of ints", []api.RIns{plain(ins(api.OpDiv), 5, 1, whole(1), whole(0))}, api.Int},
		{"a guard that is taken out", []api.RIns{move(5, whole(1)), guard(api.Int, 0, reg(5))}, api.Int},
	} {
		if got := kindKnown(t, p, 5, x.list...); got != x.want {
			t.Errorf("%s: %d", x.name, got)
		}
	}
	// The last register that there may be is known as any other one.
	c := written(move(api.MaxRegs-1, whole(1)), guard(api.Int, 1, reg(api.MaxRegs-1)), guard(api.Int, 1, reg(0)), jump())
	c.Regs = api.MaxRegs
	if d := obeys(t, p, c); len(d.Blocks[0].Ins) != 4 || d.Blocks[0].Ins[2].Args[0] != reg(0) {
		t.Error("of the last register:", d)
	}
}

// everyPlain are all operations that an RPlain may have, each with a right operand.
func everyPlain() []api.Instr {
	var l []api.Instr
	for op := range api.Ops {
		a := int64(0)
		switch kind, _ := code.Operand(op); kind {
		case code.Width:
			a = 8
		case code.Room, code.Consts:
			a = 1
		case code.Count:
			a = 2
		}
		if ops.Applies(op) || op == api.OpPrint || op == api.OpRead {
			l = append(l, ins(op, a))
		}
	}
	return l
}

// P23.1: the kind of what each operation gives, of operands of any kinds, known or not.
func TestKindsGiven(t *testing.T) {
	p := given(t)
	kinds := []int{-1, api.Nil, api.Bool, api.Int, api.Real, api.Text, api.Func, api.Array, api.Record, api.Bound, api.Chan}
	seen := map[int]int{}
	for _, i := range everyPlain() {
		takes, puts, _ := code.Effect(i)
		if puts == 0 {
			continue
		}
		for _, a := range kinds {
			for _, b := range kinds {
				var list []api.RIns
				for k, kind := range []int{a, b, api.Int}[:takes] {
					if kind >= 0 {
						list = append(list, guard(kind, 0, reg(1+k)))
					}
				}
				// What the register held ahead is known no more.
				list = append(list, guard(api.Func, 0, reg(5)), plain(i, 5, 1, regs(1, 2, 3)[:takes]...))
				want := wanted(i.Op, a, b)
				if got := kindKnown(t, p, 5, list...); got != want {
					t.Fatalf("%+v of kinds %d and %d: %d", i, a, b, got)
				}
				seen[want]++
			}
		}
	}
	if len(seen) != 9 || seen[api.Nil] != 0 || seen[api.Func] != 0 {
		t.Error("kinds that operations give:", seen)
	}
}

// wanted is the kind of what an operation gives of operands of two kinds; -1: it isn't known.
func wanted(op, a, b int) int {
	for kind, l := range tableOf() {
		if slices.Contains(l, op) {
			return kind
		}
	}
	switch op {
	case api.OpAdd, api.OpSub, api.OpMul, api.OpDiv:
		if a == api.Int && b == api.Int {
			return api.Int
		}
		if (a == api.Int || a == api.Real) && (b == api.Int || b == api.Real) {
			return api.Real
		}
	case api.OpNeg:
		if a == api.Int || a == api.Real {
			return a
		}
	}
	return -1
}

// P23.1: nothing is known where a block begins, whatever was known in the blocks ahead of it.
func TestBlocksApart(t *testing.T) {
	p := given(t)
	c := written(move(1, whole(1)), plain(ins(api.OpLen), 2, 1, reg(0)), guard(api.Array, 1, reg(0)), jump())
	ask := func(b *api.Block) {
		x := guard(api.Int, 1, reg(1))
		y := guard(api.Int, 1, reg(2))
		z := guard(api.Array, 1, reg(0))
		b.Ins = slices.Insert(b.Ins, 1, x, y, z)
	}
	ask(&c.Blocks[1])
	ask(&c.Blocks[2])
	if d := obeys(t, p, c); !sample.Same(d, c) {
		t.Errorf("%+v", d)
	}
	// In each of them by itself: of what was worked out, the point of its own block pays.
	for k := range c.Blocks {
		b := &c.Blocks[k]
		b.Ins = slices.Insert(b.Ins, 1, plain(ins(api.OpAdd), 4, 5, whole(1), whole(2)))
	}
	d := obeys(t, p, c)
	for k, b := range d.Blocks {
		if b.Ins[0].Need != 6 || b.Ins[1].Op != api.RMove || k > 0 && b.Ins[2].Args[0] != reg(1) {
			t.Errorf("block %d: %+v", k, b)
		}
	}
}

// Chapter 23's table is true: whatever an operation gives has the kind that is known of it ahead.
func TestKindsAreTrue(t *testing.T) {
	p := given(t)
	worlds := 0
	values := []api.Value{
		{}, {Kind: api.Bool}, {Kind: api.Bool, N: 1}, {Kind: api.Int, N: 1}, {Kind: api.Int}, {Kind: api.Real, N: half}, {Kind: api.Real, N: nan},
		{Kind: api.Text}, {Kind: api.Text, N: 1}, {Kind: api.Func, N: 2}, {Kind: api.Array}, {Kind: api.Record, N: 1}, {Kind: api.Bound, N: 2}, {Kind: api.Chan, N: 3},
	}
	state := api.State{Texts: []string{"k", "12"}, Objects: []api.Object{
		{Kind: api.Array, Items: values[:3]}, {Kind: api.Record, Keys: []int64{0}, Items: values[3:4]}, {Kind: api.Bound, Fn: 2}, {Kind: api.Chan, Cap: 1},
	}}
	for _, i := range everyPlain() {
		takes, puts, _ := code.Effect(i)
		for n := range len(values) * len(values) {
			args := []api.Value{values[n%len(values)], values[n/len(values)], {Kind: api.Int, N: 1}}[:takes]
			w := core(t, p, api.Limits{Fuel: 1, Budget: 99}, state).World()
			v, trap, room := ops.Apply(w, i, args)
			if trap != 0 || !room || puts == 0 {
				continue
			}
			worlds++
			a, b := -1, -1
			if takes > 0 {
				a = args[0].Kind
			}
			if takes > 1 {
				b = args[1].Kind
			}
			if want := wanted(i.Op, a, b); want >= 0 && v.Kind != want {
				t.Errorf("%+v of %v is %v", i, args, v)
			}
		}
	}
	if worlds < 2000 {
		t.Error("few were done:", worlds)
	}
}
