package deopt

import (
	"math/rand"
	"slices"
	"testing"

	"portage/api"
	"portage/base"
	"portage/compile"
	"portage/lift"
	"portage/sample"
	"portage/verify"
)

// once tells whether no operand comes twice.
func once(l []api.Opnd) bool {
	for k, o := range l {
		if slices.Contains(l[:k], o) {
			return false
		}
	}
	return true
}

// P26.4: there and back, of any register code, whatever the constants.
func TestThereAndBack(t *testing.T) {
	r := rand.New(rand.NewSource(264))
	n := 0
	for range 40000 {
		c, f := drawCode(r)
		regs, b, ok := Registers(c, f)
		if !ok {
			continue
		}
		s := c.Blocks[b].Ins[0].Exit[0]
		if s.Fn != f.Fn || s.PC != f.PC || !once(s.Slots) {
			continue
		}
		n++
		if l, ok := Frames([]api.Shape{s}, regs, drawValues(r, 3)); !ok || !same(l, []api.Frame{f}) {
			t.Fatal(f, "became", l, ok)
		}
	}
	if n < 3000 {
		t.Error("few came back:", n)
	}
}

// P26.5: the frames of two lists one behind the other, and false if one of them is.
func TestOneBehindTheOther(t *testing.T) {
	r := rand.New(rand.NewSource(265))
	ways := map[[2]bool]int{}
	for range 20000 {
		one, other, regs, consts := drawShapes(r), drawShapes(r), drawValues(r, 6), drawValues(r, 3)
		a, fine := Frames(one, regs, consts)
		b, well := Frames(other, regs, consts)
		l, ok := Frames(slices.Concat(one, other), regs, consts)
		ways[[2]bool{fine, well}]++
		if ok != (fine && well) || ok && !same(l, slices.Concat(a, b)) || !ok && len(l) != 0 {
			t.Fatal(one, "and", other, "are", l, ok)
		}
	}
	for k, n := range ways {
		if len(ways) < 4 || n < 500 {
			t.Error("few of", k, n)
		}
	}
}

// P26.6: registers that no shape names don't count, nor how many there are; what names no register stands for the same over any.
func TestOnlyWhatIsNamedCounts(t *testing.T) {
	r := rand.New(rand.NewSource(266))
	n := 0
	for range 20000 {
		l, consts := drawShapes(r), drawValues(r, 3)
		regs := append(drawValues(r, 3), make([]api.Value, 4)...)
		named := map[int64]int{}
		for _, s := range l {
			for _, o := range s.Slots {
				if o.Kind == api.AtReg {
					named[o.N]++
				} else {
					a, fine := Value(o, regs, consts)
					if b, ok := Value(o, nil, consts); a != b || fine != ok {
						t.Fatal(o, "hangs on registers")
					}
				}
			}
		}
		others := slices.Clone(regs)
		for k := range others {
			if named[int64(k)] == 0 {
				others[k] = drawValue(r)
				n++
			}
		}
		a, fine := Frames(l, regs, consts)
		b, ok := Frames(l, others, consts)
		if fine != ok || !same(a, b) {
			t.Fatal(l, "over", regs, "are", a, fine, "and over", others, b, ok)
		}
	}
	if n < 20000 {
		t.Error("few others:", n)
	}
}

// P26.3, P26.4 and chapter 19, Go: compiled code is entered wherever a block begins with the slots in front and nils behind, and the way back is the same frame.
func TestEnterCompiledCode(t *testing.T) {
	r := rand.New(rand.NewSource(267))
	for range 400 {
		p := sample.Caller(r, 30)
		f, _, err := verify.Program(p)
		if err != api.OK {
			t.Fatal(err)
		}
		fn := r.Intn(len(p.Funcs))
		c, err := compile.Function(p, f, fn, sample.Profile(r, p), r.Intn(api.AllPasses+1))
		if err != api.OK {
			t.Fatal(err)
		}
		s := sample.State(r, p)
		for k, b := range c.Blocks {
			from := sample.Frame(r, p, f, s, api.Place{Fn: fn, PC: b.PC})
			regs, at, ok := Registers(c, from)
			want := make([]api.Value, c.Regs)
			copy(want, from.Slots)
			if !ok || at != k || !slices.Equal(regs, want) {
				t.Fatal(from, "enters as", regs, at, ok)
			}
			if back := framesOf(t, b.Ins[0].Exit, regs, nil); !same(back, []api.Frame{from}) {
				t.Fatal(from, "comes back as", back)
			}
		}
	}
}

// P26.2: every point of right register code has frames over any registers, when the constants are those of its program.
func TestLeaveRightCode(t *testing.T) {
	r := rand.New(rand.NewSource(268))
	two := 0
	for range 400 {
		p := sample.Caller(r, 30)
		f, _, _ := verify.Program(p)
		c, _ := lift.Function(p, f, r.Intn(len(p.Funcs)))
		c = sample.Code(r, p, f, c)
		core, err := base.New(p, api.Limits{Budget: 9}, nil, api.State{})
		if err != api.OK {
			t.Fatal(err)
		}
		regs := make([]api.Value, c.Regs)
		for k := range regs {
			regs[k] = drawValue(r)
		}
		for _, b := range c.Blocks {
			for _, x := range b.Ins {
				got := framesOf(t, x.Exit, regs, core.Consts())
				if want, _ := meantFrames(x.Exit, regs, core.Consts()); !same(got, want) {
					t.Fatal(x, "is left as", got)
				}
				two += len(got) / 2
			}
		}
	}
	if two < 100 {
		t.Error("few of two frames:", two)
	}
}
