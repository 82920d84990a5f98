package asm

import (
	"errors"
	"slices"

	"portage/api"
	"portage/program"
)

// fault is an error's number as an error; OK is none.
func fault(e api.Errno) error {
	if e == api.OK {
		return nil
	}
	return e
}

// number is which error a fault is.
func number(err error) api.Errno {
	for e := api.ErrArg; e < api.ErrTwice; e++ {
		if errors.Is(err, e) {
			return e
		}
	}
	return api.ErrTwice
}

// count is the fault of a line that needs so many words.
func count(words []string, n int) error {
	if len(words) < n {
		return api.ErrShort
	}
	if len(words) > n {
		return api.ErrLong
	}
	return nil
}

// where is the line of what program.Check found wrong.
func (s *source) where(p api.Program, at api.Place, err error) int {
	if at.Fn < 0 {
		return s.constAt[at.PC]
	}
	if len(s.funcs) == 0 {
		return 0
	}
	f := s.funcs[at.Fn]
	switch {
	case errors.Is(err, api.ErrMany) && at.PC == api.MaxCode, errors.Is(err, api.ErrOp):
		return f.codeAt[at.PC]
	case errors.Is(err, api.ErrMany) && at.PC == api.MaxHandlers:
		return f.handlersAt[at.PC]
	case errors.Is(err, api.ErrIndex) && inCode(p, at):
		return f.codeAt[at.PC]
	case errors.Is(err, api.ErrIndex):
		return f.handlersAt[at.PC]
	}
	return f.headAt
}

// inCode tells whether the number that names nothing stands in an instruction, and not in the handler of that number: then it is also found where the function has no handlers.
func inCode(p api.Program, at api.Place) bool {
	bare := api.Program{Consts: p.Consts, Funcs: slices.Clone(p.Funcs)}
	bare.Funcs[at.Fn].Handlers = nil
	found, err := program.Check(bare)
	return found == at && errors.Is(err, api.ErrIndex)
}
