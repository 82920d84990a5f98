package wire

import (
	"bytes"
	"math"
	"math/big"
	"strings"
	"testing"

	"portage/api"
)

// ask calls a reader by the name and the argument of a call; an empty list counts as nil.
func ask(r *Reader, call string, arg int) any {
	switch call {
	case "Byte":
		return r.Byte()
	case "Uint":
		return r.Uint()
	case "Int":
		return r.Int()
	case "Word":
		return r.Word()
	case "Text":
		return r.Text(arg)
	case "Raw":
		return string(r.Raw(arg))
	case "Count":
		return r.Count(arg)
	}
	panic(call)
}

// zero is the zero value of what a call answers.
func zero(call string) any {
	switch call {
	case "Byte":
		return byte(0)
	case "Uint", "Word":
		return uint64(0)
	case "Int":
		return int64(0)
	case "Count":
		return 0
	}
	return ""
}

func calls() []string {
	return []string{"Byte", "Uint", "Int", "Word", "Text", "Raw", "Count"}
}

func TestReaderExamples(t *testing.T) {
	r := NewReader(unhex(t, "80 00"))
	if r.Uint() != 0 || r.Left() != 2 || r.End() != api.ErrForm {
		t.Error("80 00")
	}
	r = NewReader(unhex(t, "80"))
	if r.Uint() != 0 || r.Left() != 1 || r.Err() != api.ErrShort {
		t.Error("80")
	}
	r = NewReader(unhex(t, "ff ff ff ff ff ff ff ff ff 02"))
	if r.Uint() != 0 || r.Err() != api.ErrForm {
		t.Error("above 64 bits")
	}
	r = NewReader(unhex(t, "05 61 62"))
	if r.Text(4) != "" || r.Err() != api.ErrMany || r.Left() != 3 {
		t.Error("05 61 62, Text(4)")
	}
	r = NewReader(unhex(t, "05 61 62"))
	if r.Text(5) != "" || r.Err() != api.ErrShort || r.Byte() != 0 || r.Err() != api.ErrShort {
		t.Error("05 61 62, Text(5)")
	}
	r = NewReader(unhex(t, "02 61 62 63"))
	if r.Text(2) != "ab" || r.Left() != 1 || r.End() != api.ErrLong || r.Byte() != 99 || r.End() != api.OK {
		t.Error("02 61 62 63")
	}
	r = NewReader(unhex(t, "03"))
	if r.Count(-7) != 0 || r.Err() != api.ErrMany || len(r.Raw(-1)) != 0 || r.Err() != api.ErrMany {
		t.Error("03")
	}
	r = NewReader(unhex(t, "61"))
	if len(r.Raw(0)) != 0 || len(r.Raw(-1)) != 0 || r.Left() != 1 || r.Err() != api.ErrArg {
		t.Error("61")
	}
}

// TestReads: what each call answers, its error, and how many bytes are left.
func TestReads(t *testing.T) {
	for _, c := range []struct {
		bytes string
		call  string
		arg   int
		want  any
		err   api.Errno
		left  int
	}{
		{"00", "Byte", 0, byte(0), api.OK, 0},
		{"ff 01", "Byte", 0, byte(255), api.OK, 1},
		{"", "Byte", 0, byte(0), api.ErrShort, 0},

		{"01 23 45 67 89 ab cd ef 55", "Word", 0, uint64(0x0123456789abcdef), api.OK, 1},
		{"ff ff ff ff ff ff ff ff", "Word", 0, uint64(math.MaxUint64), api.OK, 0},
		{"01 23 45 67 89 ab cd", "Word", 0, uint64(0), api.ErrShort, 7},
		{"", "Word", 0, uint64(0), api.ErrShort, 0},

		{"00 00", "Uint", 0, uint64(0), api.OK, 1},
		{"7f", "Uint", 0, uint64(127), api.OK, 0},
		{"80 01", "Uint", 0, uint64(128), api.OK, 0},
		{"ac 02 00", "Uint", 0, uint64(300), api.OK, 1},
		{"80 80 80 80 80 80 80 80 80 01", "Uint", 0, uint64(1) << 63, api.OK, 0},
		{"ff ff ff ff ff ff ff ff ff 01 02", "Uint", 0, uint64(math.MaxUint64), api.OK, 1},
		{"ff ff ff ff ff ff ff ff 7f", "Uint", 0, uint64(1)<<63 - 1, api.OK, 0},
		{"", "Uint", 0, uint64(0), api.ErrShort, 0},
		{"ff ff", "Uint", 0, uint64(0), api.ErrShort, 2},
		{"80 80 80 80 80 80 80 80 80", "Uint", 0, uint64(0), api.ErrShort, 9},
		{"80 80 00", "Uint", 0, uint64(0), api.ErrForm, 3},
		{"ff 00", "Uint", 0, uint64(0), api.ErrForm, 2},
		{"80 80 80 80 80 80 80 80 00 01", "Uint", 0, uint64(0), api.ErrForm, 10},
		{"80 80 80 80 80 80 80 80 80 00", "Uint", 0, uint64(0), api.ErrForm, 10},
		{"80 80 80 80 80 80 80 80 80 03", "Uint", 0, uint64(0), api.ErrForm, 10},
		{"80 80 80 80 80 80 80 80 80 81", "Uint", 0, uint64(0), api.ErrForm, 10},
		{"80 80 80 80 80 80 80 80 80 81 01", "Uint", 0, uint64(0), api.ErrForm, 11},
		{"80 80 80 80 80 80 80 80 80 ff ff", "Uint", 0, uint64(0), api.ErrForm, 11},

		{"00", "Int", 0, int64(0), api.OK, 0},
		{"01", "Int", 0, int64(-1), api.OK, 0},
		{"02", "Int", 0, int64(1), api.OK, 0},
		{"7f", "Int", 0, int64(-64), api.OK, 0},
		{"80 01 09", "Int", 0, int64(64), api.OK, 1},
		{"fe ff ff ff ff ff ff ff ff 01", "Int", 0, int64(math.MaxInt64), api.OK, 0},
		{"ff ff ff ff ff ff ff ff ff 01", "Int", 0, int64(math.MinInt64), api.OK, 0},
		{"", "Int", 0, int64(0), api.ErrShort, 0},
		{"81", "Int", 0, int64(0), api.ErrShort, 1},
		{"81 00", "Int", 0, int64(0), api.ErrForm, 2},
		{"ff ff ff ff ff ff ff ff ff 02", "Int", 0, int64(0), api.ErrForm, 10},

		{"61 62 63", "Raw", 2, "ab", api.OK, 1},
		{"61 62 63", "Raw", 3, "abc", api.OK, 0},
		{"61 62 63", "Raw", 0, "", api.OK, 3},
		{"", "Raw", 0, "", api.OK, 0},
		{"61 62 63", "Raw", 4, "", api.ErrShort, 3},
		{"61 62 63", "Raw", math.MaxInt, "", api.ErrShort, 3},
		{"61 62 63", "Raw", -1, "", api.ErrArg, 3},
		{"", "Raw", math.MinInt, "", api.ErrArg, 0},

		{"ac 02 00", "Count", 300, 300, api.OK, 1},
		{"ac 02 00", "Count", 299, 0, api.ErrMany, 3},
		{"00", "Count", 0, 0, api.OK, 0},
		{"00", "Count", -1, 0, api.OK, 0},
		{"01", "Count", 0, 0, api.ErrMany, 1},
		{"01", "Count", math.MinInt, 0, api.ErrMany, 1},
		{"ff ff ff ff ff ff ff ff 7f", "Count", math.MaxInt, math.MaxInt, api.OK, 0},
		{"80 80 80 80 80 80 80 80 80 01", "Count", math.MaxInt, 0, api.ErrMany, 10},
		{"ff ff ff ff ff ff ff ff ff 01", "Count", -1, 0, api.ErrMany, 10},
		{"", "Count", 5, 0, api.ErrShort, 0},
		{"ff", "Count", 0, 0, api.ErrShort, 1},
		{"ff 00", "Count", 0, 0, api.ErrForm, 2},

		{"02 61 62 63", "Text", 2, "ab", api.OK, 1},
		{"02 61 62 63", "Text", math.MaxInt, "ab", api.OK, 1},
		{"02 61 62 63", "Text", 1, "", api.ErrMany, 4},
		{"03 00 ff 80", "Text", 9, "\x00\xff\x80", api.OK, 0},
		{"00 61", "Text", 0, "", api.OK, 1},
		{"00 61", "Text", -5, "", api.OK, 1},
		{"01 61", "Text", -5, "", api.ErrMany, 2},
		{"03 61 62", "Text", 3, "", api.ErrShort, 3},
		{"03 61 62", "Text", 2, "", api.ErrMany, 3},
		{"", "Text", 3, "", api.ErrShort, 0},
		{"80", "Text", 3, "", api.ErrShort, 1},
		{"82 00 61 62", "Text", 3, "", api.ErrForm, 4},
		{"ff ff ff ff ff ff ff ff 7f 61", "Text", math.MaxInt, "", api.ErrShort, 10},
		{"ff ff ff ff ff ff ff ff ff 01 61", "Text", math.MaxInt, "", api.ErrMany, 11},
	} {
		r := NewReader(unhex(t, c.bytes))
		if got := ask(r, c.call, c.arg); got != c.want || r.Err() != c.err || r.Left() != c.left {
			t.Errorf("%s: %s(%d) = %#v, %v, %d left", c.bytes, c.call, c.arg, got, r.Err(), r.Left())
		}
	}
}

// TestBehindAnError: whatever is asked behind the first error, nothing is read and nothing changes.
func TestBehindAnError(t *testing.T) {
	rest := unhex(t, "01 61 01 61 01 61 01 61 01 61 01 61")
	for _, first := range []struct {
		bytes string
		call  string
		arg   int
		err   api.Errno
	}{
		{"80 00", "Uint", 0, api.ErrForm},
		{"80 00", "Int", 0, api.ErrForm},
		{"", "Raw", -1, api.ErrArg},
		{"", "Raw", 100, api.ErrShort},
		{"02", "Count", 1, api.ErrMany},
		{"02", "Text", 1, api.ErrMany},
		{"70", "Text", 200, api.ErrShort},
	} {
		b := append(unhex(t, first.bytes), rest...)
		r := NewReader(b)
		ask(r, first.call, first.arg)
		for _, call := range calls() {
			for _, arg := range []int{math.MinInt, -1, 0, 1, 5, math.MaxInt} {
				if got := ask(r, call, arg); got != zero(call) || r.Err() != first.err || r.End() != first.err || r.Left() != len(b) {
					t.Errorf("%s(%d), behind it %s(%d) = %#v, %v, %d left", first.call, first.arg, call, arg, got, r.Err(), r.Left())
				}
			}
		}
	}
	for _, call := range []string{"Byte", "Word"} {
		r := NewReader(nil)
		ask(r, call, 0)
		if r.Raw(-1); r.Err() != api.ErrShort || r.End() != api.ErrShort {
			t.Errorf("%s of nothing, behind it Raw(-1): %v", call, r.Err())
		}
	}
}

// TestErrorBehindReads: the place is that ahead of the call that met the error, not the beginning.
func TestErrorBehindReads(t *testing.T) {
	r := NewReader(unhex(t, "07 ac 02 02 61 62 03 61"))
	if r.Byte() != 7 || r.Left() != 7 || r.Uint() != 300 || r.Left() != 5 || r.Text(2) != "ab" || r.Left() != 2 {
		t.Error("ahead of the error")
	}
	if r.End() != api.ErrLong || r.Err() != api.OK {
		t.Error("ErrLong is kept")
	}
	if r.Text(3) != "" || r.Left() != 2 || r.Err() != api.ErrShort || r.End() != api.ErrShort {
		t.Error("at the error")
	}
}

func TestNoBytes(t *testing.T) {
	for _, b := range [][]byte{nil, {}} {
		r := NewReader(b)
		if r.Left() != 0 || r.Err() != api.OK || r.End() != api.OK {
			t.Errorf("%d left, %v, %v", r.Left(), r.Err(), r.End())
		}
	}
}

func TestTellingChangesNothing(t *testing.T) {
	r := NewReader([]byte{1, 2})
	for left := 2; left > 0; left-- {
		for range 3 {
			if r.Left() != left || r.Err() != api.OK || r.End() != api.ErrLong {
				t.Errorf("%d left, %v, %v", r.Left(), r.Err(), r.End())
			}
		}
		if got := r.Byte(); got != byte(3-left) {
			t.Errorf("Byte = %d", got)
		}
	}
	if r.End() != api.OK {
		t.Error("at the end")
	}
}

func TestReaderKeepsACopy(t *testing.T) {
	b := []byte{1, 2, 3, 4}
	r := NewReader(b[:3])
	b[0], b[1], b[2] = 7, 7, 7
	got := r.Raw(3)
	if !bytes.Equal(got, []byte{1, 2, 3}) || r.End() != api.OK {
		t.Errorf("% x", got)
	}
	clear(got[:cap(got)])
	if !bytes.Equal(b, []byte{7, 7, 7, 4}) {
		t.Error("what was handed in is changed")
	}
}

func TestRawIsNewMemory(t *testing.T) {
	r := NewReader([]byte{1, 2, 3, 4, 5})
	a := r.Raw(2)
	clear(a[:cap(a)])
	if b := r.Raw(2); !bytes.Equal(b, []byte{3, 4}) || r.Byte() != 5 {
		t.Error("an answer of Raw is the reader's own")
	}
	if !bytes.Equal(a, []byte{0, 0}) {
		t.Error("two answers of Raw share memory")
	}
}

func TestTwoReaders(t *testing.T) {
	b := []byte{1, 2}
	x, y := NewReader(b), NewReader(b)
	x.Raw(-1)
	if y.Byte() != 1 || y.Byte() != 2 || y.End() != api.OK || x.Left() != 2 || x.Err() != api.ErrArg {
		t.Error("a reader knows of another")
	}
}

// TestShortForms: all forms of up to three bytes, held against what the document words.
func TestShortForms(t *testing.T) {
	var all func(b []byte)
	all = func(b []byte) {
		want, err := readWorded(b)
		r := NewReader(b)
		if got := r.Uint(); got != want || r.Err() != err {
			t.Fatalf("% x: %d, %v", b, got, r.Err())
		}
		if len(b) == 3 {
			return
		}
		for _, x := range []byte{0, 1, 2, 63, 64, 126, 127, 128, 129, 191, 192, 254, 255} {
			all(append(bytes.Clone(b), x))
		}
	}
	all(nil)
	for a := range 256 {
		for b := range 256 {
			row := []byte{byte(a), byte(b)}
			want, err := readWorded(row)
			r := NewReader(row)
			if got := r.Uint(); got != want || r.Err() != err {
				t.Fatalf("% x: %d, %v", row, got, r.Err())
			}
		}
	}
}

// readWorded reads a number of at most nine bytes as the document words it.
func readWorded(b []byte) (uint64, api.Errno) {
	sum, weight := new(big.Int), big.NewInt(1)
	for i, x := range b {
		if i > 0 && x == 0 {
			return 0, api.ErrForm
		}
		sum.Add(sum, new(big.Int).Mul(weight, big.NewInt(int64(x%128))))
		weight.Mul(weight, big.NewInt(128))
		if x < 128 {
			return sum.Uint64(), api.OK
		}
	}
	return 0, api.ErrShort
}

func TestLongTextIsRead(t *testing.T) {
	s := strings.Repeat("ab", 5000)
	r := NewReader(written(func(w *Writer) { w.Text(s) }))
	if r.Text(10000) != s || r.End() != api.OK {
		t.Error("a text of 10000 bytes")
	}
}
