package graph

import (
	"math"
	"math/rand"
	"reflect"
	"slices"
	"testing"

	"portage/api"
)

// loop is the chapter's second example.
func loop() api.Function {
	return fn(ins(api.OpTrue), ins(api.OpJz, 4), ins(api.OpNop), ins(api.OpJump, 0), ins(api.OpNil), ins(api.OpRet))
}

func TestExamples(t *testing.T) {
	taken := fn(ins(api.OpNil), ins(api.OpThrow), ins(api.OpRet))
	taken.Handlers = []api.Handler{{From: 0, To: 2, Target: 2}}
	for i, c := range []struct {
		f    api.Function
		want api.Graph
	}{
		{fn(ins(api.OpNil), ins(api.OpRet)), api.Graph{Starts: []int{0}, Next: [][]int{{}}, Order: []int{0}, Idom: []int{-1}}},
		{loop(), api.Graph{Starts: []int{0, 2, 4}, Next: [][]int{{1, 2}, {0}, {}}, Order: []int{0, 2, 1}, Idom: []int{-1, 0, 0}, Heads: []int{0}}},
		{fn(ins(api.OpJump, 2), ins(api.OpNop), ins(api.OpNil), ins(api.OpRet)), api.Graph{Starts: []int{0, 1, 2}, Next: [][]int{{2}, {2}, {}}, Order: []int{0, 2, 1}, Idom: []int{-1, -1, 0}}},
		{fn(ins(api.OpJump, 0)), api.Graph{Starts: []int{0}, Next: [][]int{{0}}, Order: []int{0}, Idom: []int{-1}, Heads: []int{0}}},
		{taken, api.Graph{Starts: []int{0, 2}, Next: [][]int{{1}, {}}, Order: []int{0, 1}, Idom: []int{-1, 0}}},
	} {
		if g, err := Build(c.f); err != api.OK || !alike(g, c.want) {
			t.Errorf("%d: %v %v, not %v", i, g, err, c.want)
		}
		built(t, c.f)
	}
}

// P9.1: no instruction is ErrShort, whatever else is wrong.
func TestNoInstruction(t *testing.T) {
	for _, f := range []api.Function{{}, {Code: []api.Instr{}}, {Handlers: []api.Handler{{From: 3}}}, {Name: "f", Params: 1, Locals: 2}} {
		if g, err := Build(f); err != api.ErrShort || !reflect.DeepEqual(g, api.Graph{}) {
			t.Error(f, g, err)
		}
	}
}

// P9.1: a jump that leads to no instruction, wherever it stands, reached or not.
func TestJumpToNothing(t *testing.T) {
	for _, op := range []int{api.OpJump, api.OpJz, api.OpJnz} {
		for n := 1; n < 6; n++ {
			for at := range n {
				for _, a := range []int64{math.MinInt64, -1 << 32, -2, -1, 0, 1, 2, 3, 4, 5, 6, 1 << 32, 1<<32 + 1, math.MaxInt64} {
					f := fn(make([]api.Instr, n)...)
					f.Code[0] = ins(api.OpRet)
					f.Code[at] = ins(op, a)
					_, ok := built(t, f)
					if ok != (a >= 0 && a < int64(n)) {
						t.Error(op, n, at, a, ok)
					}
				}
			}
		}
	}
}

// P9.1: each bound of a handler, one behind right ones too.
func TestHandlerOfNothing(t *testing.T) {
	edges := []int{math.MinInt, -1, 0, 1, 2, 3, 4, math.MaxInt}
	for _, from := range edges {
		for _, to := range edges {
			for _, target := range edges {
				h := api.Handler{From: from, To: to, Target: target}
				for ahead := range 2 {
					f := fn(ins(api.OpNil), ins(api.OpNil), ins(api.OpRet))
					f.Handlers = append(make([]api.Handler, 0, 2), []api.Handler{{From: 0, To: 3, Target: 2}}[:ahead]...)
					f.Handlers = append(f.Handlers, h)
					_, ok := built(t, f)
					if ok != (from >= 0 && from < to && to <= 3 && target >= 0 && target <= 2) {
						t.Error(h, ok)
					}
				}
			}
		}
	}
}

// Of a function only code and handlers are looked at, and of the operands only those of jumps; a handler's height is not.
func TestWhatIsLookedAt(t *testing.T) {
	plain := fn(ins(api.OpInt), ins(api.OpNop), ins(api.OpCall), ins(api.OpNop), ins(api.OpRet))
	plain.Handlers = []api.Handler{{From: 1, To: 2, Target: 4}}
	want, _ := built(t, plain)
	for _, a := range []int64{math.MinInt64, -1, 1, 4, 5, 99, math.MaxInt64} {
		f := api.Function{Name: "?", Params: -7, Locals: math.MaxInt, Code: slices.Clone(plain.Code), Handlers: slices.Clone(plain.Handlers)}
		for pc := range f.Code {
			f.Code[pc].A = a
		}
		f.Handlers[0].Height = int(a)
		if g, err := Build(f); err != api.OK || !alike(g, want) {
			t.Error(a, g, err)
		}
	}
}

// P9.2: each operation, and numbers that are none, in the midst and at the end: what it parts and what may come behind.
func TestEachOperation(t *testing.T) {
	for op := -3; op < api.Ops+3; op++ {
		for _, a := range []int64{0, 1, 2, 3} {
			f := fn(ins(api.OpNop), ins(op, a), ins(api.OpNop), ins(api.OpRet))
			built(t, f)
			f = fn(ins(api.OpNop), ins(api.OpNop), ins(api.OpNop), ins(op, a))
			g, _ := built(t, f)
			if !leads(f.Code[3]) && len(g.Starts) != 1 {
				t.Error(f, g)
			}
		}
	}
	for _, op := range []int{math.MinInt, -1, api.Ops, 256 + api.OpJump, 1<<32 + api.OpRet, math.MaxInt} {
		g, _ := built(t, fn(ins(op, -9), ins(op, 77), ins(op)))
		if len(g.Starts) != 1 || len(g.Heads) != 0 {
			t.Error(op, g)
		}
	}
}

// P9.2: which operations a start lies behind, and what may come behind a block that ends so, told by hand.
func TestWhatParts(t *testing.T) {
	for op := range api.Ops {
		parted := slices.Contains([]int{40, 41, 42, 43, 44, 45, 60, 61, 63, 64}, op)
		ends := slices.Contains([]int{40, 44, 45}, op)
		g, err := Build(fn(ins(op, 0), ins(api.OpNil)))
		if err != api.OK || (len(g.Starts) == 2) != parted {
			t.Error(op, g, err)
		}
		if parted && slices.Contains(g.Next[0], 1) == ends {
			t.Error(op, g)
		}
	}
}

// P9.2: a handler holds a block by any of its instructions, from From on and up to ahead of To.
func TestHandlersHold(t *testing.T) {
	// Blocks 0 1 2, 3 4, 5 6, 7.
	f := fn(ins(api.OpNop), ins(api.OpNop), ins(api.OpYield), ins(api.OpNop), ins(api.OpYield), ins(api.OpNop), ins(api.OpRet), ins(api.OpRet))
	for from := range 8 {
		for to := from + 1; to <= 8; to++ {
			f.Handlers = []api.Handler{{From: from, To: to, Target: 7}}
			g, _ := built(t, f)
			for b, ends := range []int{3, 5, 7, 8} {
				held := from < ends && to > []int{0, 3, 5, 7}[b]
				if slices.Contains(g.Next[b], 3) != held {
					t.Error(f.Handlers, g)
				}
			}
		}
	}
}

// P9.2: a target in the midst of a block parts it; several ways to one block are told once, whatever the order of the handlers.
func TestTold(t *testing.T) {
	f := fn(ins(api.OpNop), ins(api.OpNop), ins(api.OpJz, 3), ins(api.OpNop), ins(api.OpJump, 0), ins(api.OpRet))
	f.Handlers = []api.Handler{{From: 2, To: 6, Target: 3}, {From: 0, To: 6, Target: 5}, {From: 0, To: 3, Target: 3}, {From: 0, To: 6, Target: 1}, {From: 1, To: 2, Target: 5}, {From: 4, To: 5, Target: 5}}
	want := api.Graph{Starts: []int{0, 1, 3, 5}, Next: [][]int{{1, 2, 3}, {1, 2, 3}, {0, 1, 2, 3}, {1, 2, 3}}, Order: []int{0, 1, 2, 3}, Idom: []int{-1, 0, 0, 0}, Heads: []int{0}}
	r := rand.New(rand.NewSource(92))
	for range 50 {
		if g, err := Build(f); err != api.OK || !alike(g, want) {
			t.Fatal(f, g, err)
		}
		r.Shuffle(len(f.Handlers), func(i, j int) { f.Handlers[i], f.Handlers[j] = f.Handlers[j], f.Handlers[i] })
	}
}

// P9.2: heads lie where jumps lead back, by themselves too; not where a handler does, or a jump forth.
func TestHeads(t *testing.T) {
	f := fn(ins(api.OpJz, 3), ins(api.OpJnz, 1), ins(api.OpJz, 0), ins(api.OpJump, 0), ins(api.OpNop), ins(api.OpJz, 4), ins(api.OpRet))
	f.Handlers = []api.Handler{{From: 6, To: 7, Target: 2}}
	if g, _ := built(t, f); !slices.Equal(g.Heads, []int{0, 1, 4}) {
		t.Error(g)
	}
	if g, _ := built(t, fn(ins(api.OpRet), ins(api.OpJump, 1))); !slices.Equal(g.Heads, []int{1}) {
		t.Error(g)
	}
}

// P9.3: the order is of blocks that are asked whether they are marked only when their turn comes.
func TestOrder(t *testing.T) {
	// 0 leads to 1 and 3; 1 to 2 and 3; 2 to 1 and 3.
	g, _ := built(t, fn(ins(api.OpJz, 3), ins(api.OpJz, 3), ins(api.OpJz, 1), ins(api.OpRet)))
	if !slices.Equal(g.Order, []int{0, 1, 2, 3}) {
		t.Error(g)
	}
	// 0 leads to 1 and 2, both to 3; 4 and 5 lie there for nobody.
	g, _ = built(t, fn(ins(api.OpJz, 2), ins(api.OpJump, 3), ins(api.OpJump, 3), ins(api.OpRet), ins(api.OpYield), ins(api.OpJump, 0)))
	if !slices.Equal(g.Order, []int{0, 2, 1, 3, 4, 5}) || !slices.Equal(g.Idom, []int{-1, 0, 0, 0, -1, -1}) {
		t.Error(g)
	}
}

// P9.4: a ring with two ways into it (no head of it dominates the other), and ways back into what was left.
func TestIdom(t *testing.T) {
	g, _ := built(t, fn(ins(api.OpJz, 2), ins(api.OpYield), ins(api.OpJz, 1), ins(api.OpRet)))
	if !slices.Equal(g.Idom, []int{-1, 0, 0, 2}) {
		t.Error(g)
	}
	g, _ = built(t, fn(ins(api.OpYield), ins(api.OpYield), ins(api.OpJz, 1), ins(api.OpJz, 0), ins(api.OpRet)))
	if !slices.Equal(g.Idom, []int{-1, 0, 1, 2, 3}) {
		t.Error(g)
	}
	// A handler that holds itself.
	f := fn(ins(api.OpYield), ins(api.OpYield), ins(api.OpYield), ins(api.OpRet))
	f.Handlers = []api.Handler{{From: 0, To: 4, Target: 2}}
	g, _ = built(t, f)
	if !slices.Equal(g.Idom, []int{-1, 0, 0, 2}) || !slices.Equal(g.Next[2], []int{2, 3}) {
		t.Error(g)
	}
}

// each calls for all functions of n instructions out of a few.
func each(n int, do func(l []api.Instr)) {
	some := []api.Instr{ins(api.OpNop), ins(api.OpYield), ins(api.OpRet)}
	for to := range n {
		some = append(some, ins(api.OpJump, int64(to)), ins(api.OpJz, int64(to)))
	}
	l := make([]api.Instr, n)
	var lay func(at int)
	lay = func(at int) {
		if at == n {
			do(l)
			return
		}
		for _, i := range some {
			l[at] = i
			lay(at + 1)
		}
	}
	lay(0)
}

// P9.2 to P9.4: all short functions of instructions that matter, and the shorter ones with each handler.
func TestAllShort(t *testing.T) {
	for n := 1; n <= 4; n++ {
		each(n, func(l []api.Instr) { built(t, fn(l...)) })
	}
	for n := 1; n <= 3; n++ {
		each(n, func(l []api.Instr) {
			for from := range n {
				for to := from + 1; to <= n; to++ {
					for target := range n {
						f := fn(l...)
						f.Handlers = []api.Handler{{From: from, To: to, Target: target}}
						built(t, f)
					}
				}
			}
		})
	}
}

// P9.2 to P9.4: functions of all kinds.
func TestSome(t *testing.T) {
	r := rand.New(rand.NewSource(9))
	for range 30000 {
		built(t, someFunction(r, 14, 4))
	}
	for range 1500 {
		built(t, someFunction(r, 60, 6))
	}
	for range 15 {
		built(t, someFunction(r, 400, 32))
	}
}

// P9.1: functions of all kinds, spoilt.
func TestSomeSpoilt(t *testing.T) {
	r := rand.New(rand.NewSource(91))
	refused := 0
	for range 20000 {
		f := someFunction(r, 10, 3)
		f.Code[r.Intn(len(f.Code))].A = int64(r.Intn(40) - 15)
		if k := len(f.Handlers); k > 0 {
			h := &f.Handlers[r.Intn(k)]
			*[]*int{&h.From, &h.To, &h.Target, &h.Height}[r.Intn(4)] = r.Intn(20) - 5
		}
		if _, ok := built(t, f); !ok {
			refused++
		}
	}
	if refused < 2000 || refused > 18000 {
		t.Error(refused, "were refused")
	}
}
