package frames

// Stack is a stack of things.
type Stack[T any] struct {
	row []T // the upmost last
}

// NewStack is a stack of these, the last one upmost.
func NewStack[T any](l ...T) *Stack[T] {
	s := &Stack[T]{}
	s.Push(l...)
	return s
}

// Push lays things upon it, the last one upmost.
func (s *Stack[T]) Push(l ...T) {
	s.row = append(s.row, l...)
}

// Pop takes the upmost so many, the upmost last; false: there are not so many, and nothing is taken.
func (s *Stack[T]) Pop(n int) ([]T, bool) {
	if n < 0 || n > len(s.row) {
		return nil, false
	}
	at := len(s.row) - n
	l := s.from(at)
	s.Cut(at)
	return l, true
}

// Top is the thing so many beneath the upmost.
func (s *Stack[T]) Top(n int) (T, bool) {
	if n < 0 || n >= len(s.row) {
		var none T
		return none, false
	}
	return s.row[len(s.row)-1-n], true
}

// Cut leaves so many, from the lowest on.
func (s *Stack[T]) Cut(n int) bool {
	if n < 0 || n > len(s.row) {
		return false
	}
	// Else the row's spare room would hold on to what is taken away.
	clear(s.row[n:])
	s.row = s.row[:n]
	return true
}

// Len is how many there are.
func (s *Stack[T]) Len() int {
	return len(s.row)
}

// Items are all, the upmost last.
func (s *Stack[T]) Items() []T {
	return s.from(0)
}

// from are the things from a place on, in new memory.
func (s *Stack[T]) from(at int) []T {
	// The piece at that place has no room, so that the things are not laid into the stack itself.
	return append(s.row[at:at:at], s.row[at:]...)
}
