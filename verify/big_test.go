package verify

import (
	"slices"
	"strconv"
	"testing"

	"portage/api"
	"portage/program"
)

// greatest is a program of as many functions, instructions and handlers as there may be, which fits.
func greatest() api.Program {
	var p api.Program
	var hs []api.Handler
	for k := range api.MaxHandlers {
		hs = append(hs, api.Handler{From: 0, To: api.MaxCode - k - 1, Target: api.MaxCode - k - 1})
	}
	for k := range api.MaxFuncs {
		l := slices.Repeat(list(nilIns, popIns), api.MaxCode/2-api.MaxHandlers/2)
		l = append(l, slices.Repeat(list(retIns), api.MaxHandlers)...)
		l[len(l)-api.MaxHandlers-1] = ins(api.OpThrow)
		p.Funcs = append(p.Funcs, api.Function{Name: "f" + strconv.Itoa(k), Code: l, Handlers: hs})
	}
	return p
}

// R1: the greatest program that fits, and its bytes.
func TestGreatestProgram(t *testing.T) {
	p := greatest()
	f, at, err := Program(p)
	if err != api.OK || at != (api.Place{}) || len(f.Heights) != api.MaxFuncs {
		t.Fatal(at, err)
	}
	for k, l := range f.Heights {
		if !lawful(p.Funcs[k], l) || f.Most[k] != 1 {
			t.Fatal(k, l)
		}
	}
	b, err := program.Encode(p)
	if err != api.OK {
		t.Fatal(err)
	}
	if q, g, err := Load(b); err != api.OK || !samePrograms(p, q) || !sameFacts(f, g) {
		t.Error(err)
	}
	p.Funcs[api.MaxFuncs-1].Code[api.MaxCode-1] = nilIns
	refused(t, p, api.MaxFuncs-1, api.MaxCode-1, api.ErrReach)
}

// R1: every instruction of a long function is met at every height; the least of them tells, and it is met at the end of all.
func TestAllHeightsOfAllInstructions(t *testing.T) {
	l := slices.Repeat(list(ins(api.OpNop)), api.MaxCode)
	l[0] = ins(api.OpJump, 3)
	l[1] = ins(api.OpJump, 1)
	l[2] = ins(api.OpNop)
	l[3] = nilIns
	copy(l[api.MaxCode-4:], list(ins(api.OpDup), ins(api.OpJz, 3), ins(api.OpArray, 63), ins(api.OpJump, 1)))
	refused(t, alone(l), 0, 3, api.ErrHeight)
	l[2] = ins(api.OpJump, 2)
	l[api.MaxCode-1] = ins(api.OpJump, 2)
	l[api.MaxCode-2] = ins(api.OpArray, 62)
	refused(t, alone(l), 0, 2, api.ErrHeight)
}
