package compile

import (
	"portage/api"
	"portage/copies"
	"portage/fold"
	"portage/guess"
	"portage/inline"
	"portage/live"
)

// pass turns register code into other register code that means the same.
type pass interface {
	run(c api.Code) api.Code
}

// looker is a pass that bets on what a profile has seen; as long as it looks at none it bets on nothing.
type looker interface {
	look(prof api.Profile) pass
}

// looking is a pass that looks at a profile, if it is one that does so at all.
func looking(x pass, prof api.Profile) pass {
	if l, ok := x.(looker); ok {
		return l.look(prof)
	}
	return x
}

// stage is a pass, and the bits all of which ask for it.
type stage struct {
	bits int
	pass pass
}

// stages are all passes in their order. What fold has worked out is asked for at its source too, ahead of live: else what was moved there would still be wanted.
func stages(p api.Program, f api.Facts) []stage {
	return []stage{
		{api.PassInline, inlining{program: p, facts: f}},
		{api.PassGuess, guessing{program: p}},
		{api.PassCopies, copying{}},
		{api.PassFold, folding{program: p}},
		{api.PassCopies | api.PassFold, copying{}},
		{api.PassLive, pruning{}},
	}
}

type inlining struct {
	program api.Program
	facts   api.Facts
	profile api.Profile
}

func (x inlining) look(prof api.Profile) pass {
	x.profile = prof
	return x
}

func (x inlining) run(c api.Code) api.Code { return inline.Run(x.program, x.facts, c, x.profile) }

type guessing struct {
	program api.Program
	profile api.Profile
}

func (x guessing) look(prof api.Profile) pass {
	x.profile = prof
	return x
}

func (x guessing) run(c api.Code) api.Code { return guess.Run(x.program, c, x.profile) }

type copying struct{}

func (copying) run(c api.Code) api.Code { return copies.Run(c) }

type folding struct {
	program api.Program
}

func (x folding) run(c api.Code) api.Code { return fold.Run(x.program, c) }

type pruning struct{}

func (pruning) run(c api.Code) api.Code { return live.Run(c) }
