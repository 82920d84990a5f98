package sample_test

import (
	"math/rand"
	"testing"

	"portage/api"
	"portage/lift"
	"portage/sample"
	"portage/states"
	"portage/verify"
)

// What is drawn is right: programs are verified, states and frames are states of them, register code is taken.
func TestDrawnIsRight(t *testing.T) {
	r := rand.New(rand.NewSource(1))
	for range 1000 {
		p := sample.Program(r, 30)
		f, at, err := verify.Program(p)
		if err != api.OK {
			t.Fatal(err, "at", at)
		}
		fn := r.Intn(len(p.Funcs))
		s := sample.State(r, p)
		frame := sample.Frame(r, p, f, s, api.Place{Fn: fn, PC: r.Intn(len(p.Funcs[fn].Code))})
		// It stands in a fiber that does not run, so that one at a channel is no fault.
		main := sample.Frame(r, p, f, s, api.Place{})
		s.Fibers = []api.Fiber{{Frames: []api.Frame{main}}, {Frames: []api.Frame{frame}}}
		if err := states.Check(p, f, s); err != api.OK {
			t.Fatal(err, s)
		}
		c, _ := lift.Function(p, f, fn)
		if err := lift.Check(p, f, sample.Code(r, p, f, c)); err != api.OK {
			t.Fatal(err)
		}
	}
}

// Programs that call are verified, and many of their calls name a function of as many parameters as they have values; profiles mostly say so.
func TestCallers(t *testing.T) {
	r := rand.New(rand.NewSource(4))
	fit, told := 0, 0
	for range 500 {
		p := sample.Caller(r, 30)
		if _, at, err := verify.Program(p); err != api.OK {
			t.Fatal(err, "at", at)
		}
		prof := sample.Profile(r, p)
		for k, f := range p.Funcs {
			for pc, i := range f.Code {
				at := pc - int(i.A) - 1
				if i.Op != api.OpCall || at < 0 || f.Code[at].Op != api.OpFunc || int64(p.Funcs[f.Code[at].A].Params) != i.A {
					continue
				}
				fit++
				if pc < len(prof.Funcs[k]) && prof.Funcs[k][pc].Callee == int(f.Code[at].A)+1 {
					told++
				}
			}
		}
	}
	if fit < 500 || told < fit/2 {
		t.Error("few calls:", fit, told)
	}
}

// The same numbers draw the same.
func TestDrawnAgain(t *testing.T) {
	draw := func() api.Code {
		r := rand.New(rand.NewSource(2))
		p := sample.Caller(r, 30)
		f, _, _ := verify.Program(p)
		c, _ := lift.Function(p, f, 0)
		return sample.Code(r, p, f, c)
	}
	if !sample.Same(draw(), draw()) {
		t.Error("two draws differ")
	}
}

// A copy is the same, and stays so whatever becomes of the other; what is spoilt mostly differs.
func TestCopiedAndSpoilt(t *testing.T) {
	r := rand.New(rand.NewSource(3))
	differ := 0
	for range 2000 {
		p := sample.Program(r, 10)
		f, _, _ := verify.Program(p)
		c, _ := lift.Function(p, f, 0)
		kept, turned := sample.Copied(c), sample.Copied(c)
		sample.Spoil(r, &turned)
		if !sample.Same(c, kept) {
			t.Fatal("a copy was turned with it")
		}
		if !sample.Same(c, turned) {
			differ++
		}
	}
	if differ < 1500 {
		t.Error("few differ:", differ)
	}
}
