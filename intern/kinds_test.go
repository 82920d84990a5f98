package intern

import (
	"math"
	"slices"
	"testing"
)

// ofKind tries a row of unlike things of one type: numbered, asked for, cut and laid in again.
func ofKind[T comparable](t *testing.T, things ...T) {
	t.Helper()
	for n := range len(things) + 1 {
		x, m := made(t, things...)
		alike(t, x, m, things)
		x.Cut(n)
		m.cut(n)
		alike(t, x, m, things)
		for _, th := range slices.Backward(things) {
			if got, want := x.Add(th), m.add(th); got != want {
				t.Fatalf("Add(%v) = %d, not %d", th, got, want)
			}
		}
		alike(t, x, m, things)
	}
	if len(things) > 0 {
		if x, ok := From(append(slices.Clone(things), things[0])...); x != nil || ok {
			t.Errorf("%v twice", things[0])
		}
	}
}

type name string

type colour uint8

type point struct {
	x, y int32
	name string
}

type place struct {
	at   point
	rows [2]point
	on   bool
}

// Things are made of whole numbers, texts and bools.
func TestPlainKinds(t *testing.T) {
	ofKind[int](t, 0, 1, -1, math.MaxInt, math.MinInt)
	ofKind[int8](t, 0, 1, -1, 127, -128)
	ofKind[int16](t, 0, 1, -1, math.MaxInt16, math.MinInt16)
	ofKind[int32](t, 0, 1, -1, math.MaxInt32, math.MinInt32)
	ofKind[int64](t, 0, 1, -1, math.MaxInt64, math.MinInt64, 1<<32, 1<<32+1)
	ofKind[uint](t, 0, 1, math.MaxUint)
	ofKind[uint8](t, 0, 1, 255)
	ofKind[uint64](t, 0, 1, math.MaxUint64, 1<<63, 1<<32)
	ofKind[colour](t, 2, 0, 1)
	ofKind[bool](t, true, false)
	ofKind[name](t, "", "a", "b", "ab")
	ofKind[string](t, "", "\x00", "\x00\x00", "a", "A", "a ", " a", "\xff", "\xfe", "\ufffd", "\u00e9", "e\u0301")
}

// Things are arrays and structs of these, also inside one another; they are unlike where one part is.
func TestMadeKinds(t *testing.T) {
	ofKind[struct{}](t, struct{}{})
	ofKind[[0]int](t, [0]int{})
	ofKind[[2]int](t, [2]int{}, [2]int{0, 1}, [2]int{1, 0}, [2]int{1, 1})
	ofKind[[2]string](t, [2]string{"ab", "c"}, [2]string{"a", "bc"}, [2]string{"", "abc"}, [2]string{"abc", ""})
	ofKind[point](t, point{}, point{x: 1}, point{y: 1}, point{name: "a"}, point{1, 1, "a"})
	ofKind[place](t, place{}, place{on: true}, place{at: point{x: 1}}, place{rows: [2]point{{x: 1}, {}}}, place{rows: [2]point{{}, {x: 1}}}, place{rows: [2]point{{}, {name: "x"}}})
}

// Texts that were put together apart from one another are one thing.
func TestTextsByTheirBytes(t *testing.T) {
	x := New[string]()
	whole := "abcabc"
	if x.Add(whole[:3]) != 0 || x.Add(whole[3:]) != 0 || x.Add(string([]byte{'a', 'b', 'c'})) != 0 || x.Len() != 1 {
		t.Error("abc is there", x.Len(), "times")
	}
}
