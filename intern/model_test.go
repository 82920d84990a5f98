package intern

import (
	"math"
	"slices"
	"testing"
)

// model is an index by the document's words alone: a row, gone through from its beginning whatever is asked.
type model[T comparable] struct {
	row []T
}

func (m *model[T]) add(t T) int {
	if i := slices.Index(m.row, t); i >= 0 {
		return i
	}
	m.row = append(m.row, t)
	return len(m.row) - 1
}

func (m *model[T]) find(t T) (int, bool) {
	i := slices.Index(m.row, t)
	return max(i, 0), i >= 0
}

func (m *model[T]) at(i int) (t T, ok bool) {
	if 0 <= i && i < len(m.row) {
		return m.row[i], true
	}
	return t, false
}

func (m *model[T]) cut(n int) {
	switch {
	case n < 0:
		m.row = nil
	case n < len(m.row):
		m.row = m.row[:n]
	}
}

// pair is one thing that a walk gives, with its number.
type pair[T comparable] struct {
	i int
	t T
}

// walked are the things that a walk gives whose taker does something at each.
func walked[T comparable](x *Index[T], at func(i int, t T)) []pair[T] {
	var l []pair[T]
	for i, t := range x.All() {
		l = append(l, pair[T]{i, t})
		at(i, t)
	}
	return l
}

// walk is what a walk gives by the document's words.
func (m *model[T]) walk(at func(i int, t T)) []pair[T] {
	var l []pair[T]
	n := len(m.row)
	for i := 0; ; i++ {
		if i >= n || i >= len(m.row) {
			return l
		}
		t := m.row[i]
		l = append(l, pair[T]{i, t})
		at(i, t)
	}
}

// outside are numbers that name nothing in any row of these tests.
func outside() []int {
	return []int{-1, -2, -1000, math.MinInt, math.MinInt + 1, math.MinInt32, 1 << 20, math.MaxInt32, 1 << 32, math.MaxInt - 1, math.MaxInt}
}

// alike holds all that an index answers against a row, each of the things asked for too.
func alike[T comparable](t *testing.T, x *Index[T], m *model[T], things []T) {
	t.Helper()
	if x.Len() != len(m.row) || !slices.Equal(x.Items(), m.row) {
		t.Fatalf("holds %d: %v, not %v", x.Len(), x.Items(), m.row)
	}
	for _, th := range things {
		n, ok := x.Find(th)
		if wn, wok := m.find(th); n != wn || ok != wok {
			t.Fatalf("of %v: Find(%v) = %d %v, not %d %v", m.row, th, n, ok, wn, wok)
		}
	}
	for i := -2; i < len(m.row)+3; i++ {
		sameAt(t, x, m, i)
	}
	for _, i := range outside() {
		sameAt(t, x, m, i)
	}
	nothing := func(int, T) {}
	if got, want := walked(x, nothing), m.walk(nothing); !slices.Equal(got, want) {
		t.Fatalf("of %v: All gives %v", m.row, got)
	}
	if x.Len() != len(m.row) {
		t.Fatalf("asking changed %v", m.row)
	}
}

// sameAt holds At against a row.
func sameAt[T comparable](t *testing.T, x *Index[T], m *model[T], i int) {
	t.Helper()
	got, ok := x.At(i)
	if want, wok := m.at(i); got != want || ok != wok {
		t.Fatalf("of %v: At(%d) = %v %v, not %v %v", m.row, i, got, ok, want, wok)
	}
}

// made is an index and a row of the same things.
func made[T comparable](t *testing.T, l ...T) (*Index[T], *model[T]) {
	t.Helper()
	x, ok := From(l...)
	if !ok || x == nil {
		t.Fatalf("From(%v) = %v %v", l, x, ok)
	}
	return x, &model[T]{slices.Clone(l)}
}
