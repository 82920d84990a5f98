package wire

import (
	"bytes"
	"math"
	"math/rand"
	"testing"

	"portage/api"
)

// part is one call of a row: what it writes, or has read.
type part struct {
	call string
	x    any
}

// put writes a part by the call of its name.
func (p part) put(w *Writer) {
	switch p.call {
	case "Byte":
		w.Byte(p.x.(byte))
	case "Uint":
		w.Uint(p.x.(uint64))
	case "Int":
		w.Int(p.x.(int64))
	case "Word":
		w.Word(p.x.(uint64))
	case "Text":
		w.Text(p.x.(string))
	case "Raw":
		w.Raw([]byte(p.x.(string)))
	case "Count":
		w.Uint(uint64(p.x.(int)))
	}
}

// room is an argument with which a reader reads the part back.
func (p part) room() int {
	switch x := p.x.(type) {
	case string:
		return len(x)
	case int:
		return x
	}
	return 0
}

// some is any number, of any length with the same chance.
func some(r *rand.Rand) uint64 { return r.Uint64() >> r.Intn(64) }

// someBytes are up to 200 bytes.
func someBytes(r *rand.Rand) string {
	b := make([]byte, r.Intn(200)>>r.Intn(8))
	r.Read(b)
	return string(b)
}

// somePart is any part.
func somePart(r *rand.Rand) part {
	switch call := calls()[r.Intn(len(calls()))]; call {
	case "Byte":
		return part{call, byte(r.Uint32())}
	case "Int":
		return part{call, int64(some(r)) * int64(1-2*r.Intn(2))}
	case "Text", "Raw":
		return part{call, someBytes(r)}
	case "Count":
		return part{call, int(some(r) >> 1)}
	default:
		return part{call, some(r)}
	}
}

// edgeParts are the edges by each call that P1.8 and P1.10 speak of.
func edgeParts() []part {
	l := []part{{"Text", ""}, {"Text", "a"}, {"Text", string(make([]byte, 127))}, {"Text", string(make([]byte, 128))}}
	for x := range 256 {
		l = append(l, part{"Byte", byte(x)})
	}
	for _, x := range edges() {
		l = append(l, part{"Uint", x}, part{"Word", x})
	}
	for _, n := range signed() {
		l = append(l, part{"Int", n})
	}
	return l
}

// readBack holds what a reader reads against the row that was written.
func readBack(t *testing.T, row []part) {
	t.Helper()
	w := NewWriter()
	for _, p := range row {
		p.put(w)
	}
	r := NewReader(w.Done())
	for _, p := range row {
		if got := ask(r, p.call, p.room()); got != p.x || r.Err() != api.OK {
			t.Fatalf("%s: %#v was written, %#v is read, %v", p.call, p.x, got, r.Err())
		}
	}
	if r.End() != api.OK || r.Left() != 0 {
		t.Fatalf("%v, %d left", r.End(), r.Left())
	}
}

func TestReadBack(t *testing.T) {
	readBack(t, nil)
	readBack(t, edgeParts())
	for _, p := range edgeParts() {
		readBack(t, []part{p})
	}
	r := rand.New(rand.NewSource(1))
	for range 3000 {
		var row []part
		for range r.Intn(12) {
			row = append(row, somePart(r))
		}
		readBack(t, row)
	}
}

// oneWay holds bytes that a row of calls reads whole against what a writer makes of the answers: whether they were read.
func oneWay(t *testing.T, b []byte, calls []string, most int) bool {
	t.Helper()
	r, w := NewReader(b), NewWriter()
	for _, call := range calls {
		part{call, ask(r, call, most)}.put(w)
	}
	if r.End() != api.OK {
		return false
	}
	if !bytes.Equal(w.Done(), b) {
		t.Fatalf("%v read % x, and write % x", calls, b, w.Done())
	}
	return true
}

func TestOneWay(t *testing.T) {
	read := 0
	count := func(ok bool) {
		if ok {
			read++
		}
	}
	singles := []string{"Byte", "Uint", "Int", "Word", "Text"}
	for _, call := range singles {
		for a := range 256 {
			count(oneWay(t, []byte{byte(a)}, []string{call}, 300))
			for b := range 256 {
				count(oneWay(t, []byte{byte(a), byte(b)}, []string{call}, 300))
			}
		}
	}
	r := rand.New(rand.NewSource(2))
	for range 200000 {
		b := make([]byte, r.Intn(14))
		for i := range b { // few kinds of bytes, so that many rows can be read
			b[i] = []byte{0, 1, 2, 127, 128, 129, 255, byte(r.Uint32())}[r.Intn(8)]
		}
		row := make([]string, 1+r.Intn(4))
		for i := range row {
			row[i] = singles[r.Intn(len(singles))]
		}
		count(oneWay(t, b, row, []int{-1, 0, 1, 3, math.MaxInt}[r.Intn(5)]))
	}
	if read < 20000 {
		t.Errorf("only %d rows of bytes could be read", read)
	}
}

// TestLongFormsOneWay: forms of nine and ten bytes, and a byte more, at every last byte.
func TestLongFormsOneWay(t *testing.T) {
	for n := 8; n <= 11; n++ {
		read := 0
		for last := range 256 {
			b := append(bytes.Repeat([]byte{0x80}, n-1), byte(last))
			if oneWay(t, b, []string{"Uint"}, 0) != oneWay(t, b, []string{"Int"}, 0) {
				t.Fatalf("% x: Uint and Int do not agree", b)
			}
			if oneWay(t, b, []string{"Uint"}, 0) {
				read++
			}
		}
		if want := map[int]int{8: 127, 9: 127, 10: 1, 11: 0}[n]; read != want {
			t.Errorf("of %d bytes %d forms are read, not %d", n, read, want)
		}
	}
}

func TestNoProperBeginning(t *testing.T) {
	for _, p := range edgeParts() {
		b := written(p.put)
		for n := range len(b) {
			r := NewReader(b[:n])
			if got := ask(r, p.call, p.room()); got != zero(p.call) || r.Err() != api.ErrShort || r.Left() != n {
				t.Errorf("%d bytes of %s(%#v): %#v, %v, %d left", n, p.call, p.x, got, r.Err(), r.Left())
			}
		}
	}
}
