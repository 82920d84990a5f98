package listing

import (
	"portage/api"
	"portage/asm"
	"portage/code"
	"portage/decimal"
)

// addConst puts down a constant of a well-formed program.
func (t *text) addConst(c api.Const) {
	if c.Kind == api.Real {
		t.add(line("const", "real", decimal.Real(uint64(c.N))))
		return
	}
	t.add(line("const", "text", asm.Quote(c.Text)))
}

// addFunc puts down a function of a well-formed program.
func (t *text) addFunc(p api.Program, f api.Function) {
	t.add(line("func", f.Name, number(f.Params), number(f.Locals)))
	named := namedPlaces(f)
	for pc, i := range f.Code {
		t.addLabel(named, pc)
		s, _ := Instr(p, i)
		t.add(inside, s)
	}
	t.addLabel(named, len(f.Code))
	for _, h := range f.Handlers {
		t.add(inside, line("handler", label(h.From), label(h.To), label(h.Target), number(h.Height)))
	}
}

// addLabel puts down the label of a place, if it is named.
func (t *text) addLabel(named []bool, pc int) {
	if named[pc] {
		t.add(label(pc), ":")
	}
}

// namedPlaces tells of each place of a function, the one behind its last instruction too, whether an instruction or a handler names it.
func namedPlaces(f api.Function) []bool {
	named := make([]bool, len(f.Code)+1)
	for _, i := range f.Code {
		if code.Jumps(i.Op) {
			named[i.A] = true
		}
	}
	for _, h := range f.Handlers {
		named[h.From], named[h.To], named[h.Target] = true, true, true
	}
	return named
}
