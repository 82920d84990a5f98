package deopt

import (
	"math/rand"
	"slices"
	"testing"

	"portage/api"
	"portage/real"
)

// The chapter's words, one thing after the other.

// meantValue is Value's answer.
func meantValue(o api.Opnd, regs, consts []api.Value) (api.Value, bool) {
	var ok bool
	var v api.Value
	switch o.Kind {
	case api.AtReg:
		for k := range regs {
			if int64(k) == o.N {
				v, ok = regs[k], true
			}
		}
	case api.AtConst:
		for k := range consts {
			if int64(k) == o.N {
				v, ok = consts[k], true
			}
		}
	case api.AtNil:
		ok = o.N == 0
	case api.AtBool:
		ok = slices.Contains([]int64{0, 1}, o.N)
	case api.AtInt:
		ok = true
	case api.AtReal:
		ok = real.Canon(uint64(o.N)) == uint64(o.N)
	case api.AtFunc:
		ok = o.N > -1
	}
	kind, known := map[int]int{api.AtBool: api.Bool, api.AtInt: api.Int, api.AtReal: api.Real, api.AtFunc: api.Func}[o.Kind]
	if known && ok {
		v = api.Value{Kind: kind, N: o.N}
	}
	return v, ok
}

// meantFrames is Frames' answer.
func meantFrames(l []api.Shape, regs, consts []api.Value) ([]api.Frame, bool) {
	var out []api.Frame
	for _, s := range l {
		f := api.Frame{Fn: s.Fn, PC: s.PC}
		for _, o := range s.Slots {
			v, ok := meantValue(o, regs, consts)
			if !ok {
				return nil, false
			}
			f.Slots = append(f.Slots, v)
		}
		out = append(out, f)
	}
	return out, true
}

// meantRegisters is Registers' answer.
func meantRegisters(c api.Code, f api.Frame) ([]api.Value, int, bool) {
	k := slices.IndexFunc(c.Blocks, func(b api.Block) bool { return b.PC == f.PC })
	switch {
	case c.Regs < 0, c.Regs > api.MaxRegs, c.Fn != f.Fn, k < 0:
		return nil, 0, false
	case len(c.Blocks[k].Ins) == 0, c.Blocks[k].Ins[0].Op != api.RPoint, len(c.Blocks[k].Ins[0].Exit) != 1:
		return nil, 0, false
	}
	slots := c.Blocks[k].Ins[0].Exit[0].Slots
	bad := func(o api.Opnd) bool { return o.Kind != api.AtReg || o.N < 0 || o.N > int64(c.Regs)-1 }
	if len(slots) != len(f.Slots) || slices.ContainsFunc(slots, bad) {
		return nil, 0, false
	}
	var out []api.Value
	for n := range c.Regs {
		v := api.Value{}
		for i, o := range slots {
			if o == at(api.AtReg, int64(n)) {
				v = f.Slots[i]
			}
		}
		out = append(out, v)
	}
	return out, k, true
}

// P26.1 and P26.2: any operands and shapes, over any registers and constants.
func TestFramesByTheWords(t *testing.T) {
	r := rand.New(rand.NewSource(261))
	good, bad := 0, 0
	for range 40000 {
		l, regs, consts := drawShapes(r), drawValues(r, 5), drawValues(r, 3)
		got, ok := Frames(l, regs, consts)
		want, right := meantFrames(l, regs, consts)
		if ok != right || !same(got, want) {
			t.Fatal(l, "over", regs, consts, "are", got, ok, "and not", want, right)
		}
		if ok && len(l) > 0 {
			good++
		} else if !ok {
			bad++
		}
		o := drawOpnd(r)
		v, ok := Value(o, regs, consts)
		if w, right := meantValue(o, regs, consts); v != w || ok != right {
			t.Fatal(o, "over", regs, consts, "is", v, ok, "and not", w, right)
		}
	}
	if good < 5000 || bad < 5000 {
		t.Error("few of one sort:", good, bad)
	}
}

// P26.3: any register code and frame.
func TestRegistersByTheWords(t *testing.T) {
	r := rand.New(rand.NewSource(263))
	good, bad := 0, 0
	for range 40000 {
		c, f := drawCode(r)
		got, b, ok := Registers(c, f)
		want, k, right := meantRegisters(c, f)
		if ok != right || b != k || !slices.Equal(got, want) {
			t.Fatal(f, "of", c, "is", got, b, ok, "and not", want, k, right)
		}
		if ok && len(f.Slots) > 0 {
			good++
		} else if !ok {
			bad++
		}
	}
	if good < 5000 || bad < 5000 {
		t.Error("few of one sort:", good, bad)
	}
}
