package program

import (
	"errors"

	"portage/api"
)

// fault is a thing of a program that is wrong, by its number in its list. Of the functions it knows nothing: within says in which one it lies.
type fault struct {
	at  int
	why api.Errno
}

// Error is what is wrong.
func (f fault) Error() string { return f.why.Error() }

// within is an error on its way up, with the function in which it lies.
type within struct {
	fn  int
	err error
}

// constants stands in the place of a function's number, where a constant is wrong.
const constants = -1

// Error is what the wrapped one says.
func (w within) Error() string { return w.err.Error() }

// Unwrap is the wrapped one.
func (w within) Unwrap() error { return w.err }

// tell is the place of a fault, and what is wrong there; nil is no fault.
func tell(err error) (api.Place, api.Errno) {
	var f fault
	var w within
	if !errors.As(err, &f) || !errors.As(err, &w) {
		return api.Place{}, api.OK
	}
	return api.Place{Fn: w.fn, PC: f.at}, f.why
}
