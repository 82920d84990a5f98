package wire

import (
	"math/bits"
	"slices"
)

// Writer lays numbers and texts one behind the other as bytes.
type Writer struct {
	held []byte
}

// NewWriter is a writer that has written nothing.
func NewWriter() *Writer { return &Writer{} }

// Byte writes a byte.
func (w *Writer) Byte(x byte) { put(w, x) }

// Uint writes a number in as few bytes as it needs.
func (w *Writer) Uint(x uint64) {
	for x >= 128 {
		put(w, byte(x)|128)
		x >>= 7
	}
	put(w, byte(x))
}

// Int writes a number with a sign.
func (w *Writer) Int(x int64) { w.Uint(fold(x)) }

// Word writes a number in eight bytes.
func (w *Writer) Word(x uint64) { put(w, x) }

// Text writes a text behind its length.
func (w *Writer) Text(s string) {
	w.Uint(uint64(len(s)))
	w.held = append(w.held, s...)
}

// Raw writes bytes as they are.
func (w *Writer) Raw(b []byte) { w.held = append(w.held, b...) }

// Len is how many bytes were written.
func (w *Writer) Len() int { return len(w.held) }

// Done is all that was written.
func (w *Writer) Done() []byte { return slices.Clone(w.held) }

// unsigned are the kinds of numbers that put lays down.
type unsigned interface {
	~uint8 | ~uint16 | ~uint32 | ~uint64
}

// put lays down a number in all the bytes that its kind has, the highest first.
func put[T unsigned](w *Writer, x T) {
	for shift := bits.Len64(uint64(^T(0))) - 8; shift >= 0; shift -= 8 {
		w.held = append(w.held, byte(x>>shift))
	}
}
