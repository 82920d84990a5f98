package code

import (
	"bytes"
	"slices"
	"testing"

	"portage/api"
)

// R4: the list that is handed in stays what it was, its spare room included, and so does the answer whatever becomes of the list.
func TestEncodeKeepsNothing(t *testing.T) {
	whole := []api.Instr{{Op: api.OpInt, A: 5}, {Op: api.OpLoad, A: 2}, {Op: api.OpCall, A: 9}, {Op: api.OpThrow}}
	for n := range len(whole) + 1 {
		l := slices.Clone(whole)
		a, _ := Encode(l[:n])
		b, _ := Encode(l[:n])
		if !slices.Equal(l, whole) {
			t.Fatal("the list became", l)
		}
		want := slices.Clone(a)
		clear(b[:cap(b)])
		clear(l)
		if !bytes.Equal(a, want) {
			t.Error(n, "instructions: the answer became", a)
		}
	}
}

// R4: so it is with bytes.
func TestDecodeKeepsNothing(t *testing.T) {
	whole := []byte{4, 10, 10, 2, 43, 9, 45}
	for _, n := range []int{0, 2, 4, 6, 7} {
		b := slices.Clone(whole)
		l, _ := Decode(b[:n])
		m, _ := Decode(b[:n])
		if !bytes.Equal(b, whole) {
			t.Fatal("the bytes became", b)
		}
		want := slices.Clone(l)
		clear(m[:cap(m)])
		clear(b)
		if !slices.Equal(l, want) {
			t.Error(n, "bytes: the answer became", l)
		}
	}
}

// R4: what is refused is not changed either.
func TestRefusedIsKept(t *testing.T) {
	l := []api.Instr{{Op: api.OpInt, A: 5}, {Op: 67, A: 2}, {Op: -1}}
	b := []byte{4, 10, 67, 1}
	Encode(l)
	Decode(b)
	for pc := range l {
		Safe(l, pc)
	}
	if !slices.Equal(l, []api.Instr{{Op: api.OpInt, A: 5}, {Op: 67, A: 2}, {Op: -1}}) || !bytes.Equal(b, []byte{4, 10, 67, 1}) {
		t.Error(l, b)
	}
}
