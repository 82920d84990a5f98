package wire

import (
	"slices"

	"portage/api"
)

// Reader reads what a writer wrote; behind its first error it reads nothing more.
type Reader struct {
	left []byte
	err  api.Errno
}

// NewReader is a reader at the first of these bytes.
func NewReader(b []byte) *Reader { return &Reader{left: slices.Clone(b)} }

// Byte reads a byte.
func (r *Reader) Byte() byte { return read(r, r.one) }

// Uint reads a number.
func (r *Reader) Uint() uint64 { return read(r, r.number) }

// Int reads a number with a sign.
func (r *Reader) Int() int64 {
	return read(r, func() int64 { return unfold(r.number()) })
}

// Word reads a number of eight bytes.
func (r *Reader) Word() uint64 { return read(r, r.word) }

// Text reads a text of at most so many bytes.
func (r *Reader) Text(most int) string {
	return read(r, func() string { return string(r.take(r.atMost(most))) })
}

// Raw reads so many bytes.
func (r *Reader) Raw(n int) []byte {
	return read(r, func() []byte { return slices.Clone(r.take(n)) })
}

// Count reads a number from 0 to most.
func (r *Reader) Count(most int) int {
	return read(r, func() int { return r.atMost(most) })
}

// Left is how many bytes are left.
func (r *Reader) Left() int { return len(r.left) }

// Err is the first error.
func (r *Reader) Err() api.Errno { return r.err }

// End is the first error, or ErrLong where bytes are left.
func (r *Reader) End() api.Errno {
	if r.err == api.OK && len(r.left) > 0 {
		return api.ErrLong
	}
	return r.err
}

// read is what every call that reads has in common: nothing happens behind the first error, and where part gives up, the place is what it was ahead of the call.
func read[T any](r *Reader, part func() T) (x T) {
	if r.err != api.OK {
		return x
	}
	ahead := r.left
	defer func() {
		if why, gaveUp := recover().(api.Errno); gaveUp {
			r.left, r.err = ahead, why
		}
	}()
	return part()
}

// The parts below give up by a panic with the error's number, which read catches.

// take is the next n bytes, which are still the reader's own.
func (r *Reader) take(n int) []byte {
	if n < 0 {
		panic(api.ErrArg)
	}
	if n > len(r.left) {
		panic(api.ErrShort)
	}
	b := r.left[:n]
	r.left = r.left[n:]
	return b
}

// one is the next byte.
func (r *Reader) one() byte { return r.take(1)[0] }

// word is the number that the next eight bytes are.
func (r *Reader) word() uint64 {
	var x uint64
	for _, b := range r.take(8) {
		x = x<<8 | uint64(b)
	}
	return x
}

// number is the number whose form comes next.
func (r *Reader) number() uint64 {
	var x uint64
	for shift := 0; ; shift += 7 {
		b := r.one()
		// Of 64 bits only one is left for a tenth byte.
		if shift == 63 && b != 1 || shift > 0 && b == 0 {
			panic(api.ErrForm)
		}
		x |= uint64(b&127) << shift
		if b < 128 {
			return x
		}
	}
}

// atMost is the next number, if it is not above most.
func (r *Reader) atMost(most int) int {
	x := r.number()
	if x > uint64(max(most, 0)) {
		panic(api.ErrMany)
	}
	return int(x)
}
