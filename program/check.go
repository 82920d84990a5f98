package program

import (
	"portage/api"
	"portage/code"
	"portage/real"
)

// Check is what is wrong with a program, and where.
func Check(p api.Program) (api.Place, api.Errno) { return tell(check(p)) }

// check is the first fault of a program.
func check(p api.Program) error {
	if err := checkConsts(p.Consts); err != nil {
		return within{constants, err}
	}
	if len(p.Funcs) == 0 {
		return within{0, fault{0, api.ErrShort}}
	}
	if len(p.Funcs) > api.MaxFuncs {
		return within{api.MaxFuncs, fault{0, api.ErrMany}}
	}
	names := map[string]int{}
	for k, f := range p.Funcs {
		if err := checkFunc(p, k, names); err != nil {
			return within{k, err}
		}
		names[f.Name] = k
	}
	return nil
}

// checkConsts is the first fault of the constants.
func checkConsts(l []api.Const) error {
	if len(l) > api.MaxConsts {
		return fault{api.MaxConsts, api.ErrMany}
	}
	ahead := map[api.Const]int{}
	for i, c := range l {
		if !rightFields(c) {
			return fault{i, api.ErrForm}
		}
		if len(c.Text) > api.MaxText {
			return fault{i, api.ErrMany}
		}
		if _, twice := ahead[c]; twice {
			return fault{i, api.ErrTwice}
		}
		ahead[c] = i
	}
	return nil
}

// rightFields tells whether a constant has what its kind has, and nothing else.
func rightFields(c api.Const) bool {
	switch c.Kind {
	case api.Real:
		return c.Text == "" && real.Canon(uint64(c.N)) == uint64(c.N)
	case api.Text:
		return c.N == 0
	}
	return false
}

// checkFunc is the first fault of function k; names are those of the functions ahead of it.
func checkFunc(p api.Program, k int, names map[string]int) error {
	f := p.Funcs[k]
	if err := checkName(f.Name, names); err != nil {
		return err
	}
	if err := checkSizes(f, k == 0); err != nil {
		return err
	}
	if err := checkCode(p, f); err != nil {
		return err
	}
	return checkHandlers(f)
}

// checkName is the fault of a name among those that are taken.
func checkName(name string, taken map[string]int) error {
	if !spelt(name) {
		return fault{0, api.ErrText}
	}
	if len(name) > api.MaxName {
		return fault{0, api.ErrMany}
	}
	if _, twice := taken[name]; twice {
		return fault{0, api.ErrTwice}
	}
	return nil
}

// spelt tells whether a name is there, and of the bytes of right names alone.
func spelt(name string) bool {
	for i := range len(name) {
		b := name[i]
		if !('a' <= b && b <= 'z' || 'A' <= b && b <= 'Z' || '0' <= b && b <= '9' || b == '_') {
			return false
		}
	}
	return name != ""
}

// checkSizes is the fault of how many parameters, locals and instructions a function has.
func checkSizes(f api.Function, main bool) error {
	if f.Params < 0 || f.Locals < f.Params || main && f.Params != 0 {
		return fault{0, api.ErrArg}
	}
	if f.Locals > api.MaxLocals {
		return fault{0, api.ErrMany}
	}
	if len(f.Code) == 0 {
		return fault{0, api.ErrShort}
	}
	if len(f.Code) > api.MaxCode {
		return fault{api.MaxCode, api.ErrMany}
	}
	return nil
}

// checkCode is the first fault of a function's instructions.
func checkCode(p api.Program, f api.Function) error {
	for pc, i := range f.Code {
		if why := code.Check(i); why != api.OK {
			return fault{pc, why}
		}
		if !there(p, f, i) {
			return fault{pc, api.ErrIndex}
		}
	}
	return nil
}

// there tells whether the program has what an operand names; that the operand is not below 0 was asked ahead of it.
func there(p api.Program, f api.Function, i api.Instr) bool {
	kind, _ := code.Operand(i.Op)
	switch kind {
	case code.Place:
		return i.A < int64(len(f.Code))
	case code.Local:
		return i.A < int64(f.Locals)
	case code.Funcs:
		return i.A < int64(len(p.Funcs))
	case code.Consts:
		// All that names a constant but the instruction const itself takes it for a field's key.
		return i.A < int64(len(p.Consts)) && (i.Op == api.OpConst || p.Consts[i.A].Kind == api.Text)
	}
	return true
}

// checkHandlers is the first fault of a function's handlers.
func checkHandlers(f api.Function) error {
	if len(f.Handlers) > api.MaxHandlers {
		return fault{api.MaxHandlers, api.ErrMany}
	}
	for i, h := range f.Handlers {
		if !fits(h, len(f.Code)) {
			return fault{i, api.ErrIndex}
		}
	}
	return nil
}

// fits tells whether a handler speaks of places and heights that a function of so many instructions can have.
func fits(h api.Handler, n int) bool {
	return 0 <= h.From && h.From < h.To && h.To <= n &&
		0 <= h.Target && h.Target < n &&
		0 <= h.Height && h.Height < api.MaxHeight
}
