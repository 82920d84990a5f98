package wire

import (
	"bytes"
	"encoding/binary"
	"encoding/hex"
	"math"
	"math/big"
	"slices"
	"strings"
	"testing"
)

// unhex are the bytes of a row of hexadecimal digits with gaps.
func unhex(t *testing.T, s string) []byte {
	t.Helper()
	b, err := hex.DecodeString(strings.ReplaceAll(s, " ", ""))
	if err != nil {
		t.Fatal(err)
	}
	return b
}

// written is what a new writer holds behind one call.
func written(put func(w *Writer)) []byte {
	w := NewWriter()
	put(w)
	return w.Done()
}

// edges are the numbers at which a form of 1 to 10 digits, or of 8 bytes, may go wrong.
func edges() []uint64 {
	l := []uint64{0, math.MaxUint64}
	for s := range 64 {
		l = append(l, 1<<s-1, 1<<s, 1<<s+1, 1<<s|1<<(s/2))
	}
	slices.Sort(l)
	return slices.Compact(l)
}

// signed are the edges as numbers of both signs.
func signed() []int64 {
	l := []int64{math.MinInt64, math.MinInt64 + 1, math.MaxInt64}
	for _, x := range edges() {
		l = append(l, int64(x), -int64(x))
	}
	return l
}

// digits is the form of a number as the document words it: by long division, without a shift.
func digits(x *big.Int) []byte {
	var b []byte
	base, digit := big.NewInt(128), new(big.Int)
	rest := new(big.Int).Set(x)
	for {
		rest.DivMod(rest, base, digit)
		if rest.Sign() == 0 {
			return append(b, byte(digit.Int64()))
		}
		b = append(b, byte(digit.Int64())+128)
	}
}

func TestWriterExamples(t *testing.T) {
	for _, c := range []struct {
		name string
		put  func(w *Writer)
		want string
	}{
		{"Byte(0)", func(w *Writer) { w.Byte(0) }, "00"},
		{"Byte(255)", func(w *Writer) { w.Byte(255) }, "ff"},
		{"Uint(0)", func(w *Writer) { w.Uint(0) }, "00"},
		{"Uint(127)", func(w *Writer) { w.Uint(127) }, "7f"},
		{"Uint(128)", func(w *Writer) { w.Uint(128) }, "80 01"},
		{"Uint(300)", func(w *Writer) { w.Uint(300) }, "ac 02"},
		{"Uint(2^14 - 1)", func(w *Writer) { w.Uint(1<<14 - 1) }, "ff 7f"},
		{"Uint(2^14)", func(w *Writer) { w.Uint(1 << 14) }, "80 80 01"},
		{"Uint(2^63 - 1)", func(w *Writer) { w.Uint(1<<63 - 1) }, "ff ff ff ff ff ff ff ff 7f"},
		{"Uint(2^63)", func(w *Writer) { w.Uint(1 << 63) }, "80 80 80 80 80 80 80 80 80 01"},
		{"Uint(2^64 - 1)", func(w *Writer) { w.Uint(1<<64 - 1) }, "ff ff ff ff ff ff ff ff ff 01"},
		{"Int(0)", func(w *Writer) { w.Int(0) }, "00"},
		{"Int(-1)", func(w *Writer) { w.Int(-1) }, "01"},
		{"Int(1)", func(w *Writer) { w.Int(1) }, "02"},
		{"Int(-64)", func(w *Writer) { w.Int(-64) }, "7f"},
		{"Int(64)", func(w *Writer) { w.Int(64) }, "80 01"},
		{"Int(2^63 - 1)", func(w *Writer) { w.Int(1<<63 - 1) }, "fe ff ff ff ff ff ff ff ff 01"},
		{"Int(-2^63)", func(w *Writer) { w.Int(-1 << 63) }, "ff ff ff ff ff ff ff ff ff 01"},
		{"Word(0)", func(w *Writer) { w.Word(0) }, "00 00 00 00 00 00 00 00"},
		{"Word(258)", func(w *Writer) { w.Word(258) }, "00 00 00 00 00 00 01 02"},
		{"Word", func(w *Writer) { w.Word(0x0123456789abcdef) }, "01 23 45 67 89 ab cd ef"},
		{"Text(ab)", func(w *Writer) { w.Text("ab") }, "02 61 62"},
		{"Text()", func(w *Writer) { w.Text("") }, "00"},
		{"Text, no runes", func(w *Writer) { w.Text("\x00\xff\x80") }, "03 00 ff 80"},
		{"Raw", func(w *Writer) { w.Raw([]byte{0, 255, 128}) }, "00 ff 80"},
		{"Raw()", func(w *Writer) { w.Raw(nil); w.Raw([]byte{}) }, ""},
	} {
		w := NewWriter()
		c.put(w)
		want := unhex(t, c.want)
		if !bytes.Equal(w.Done(), want) || w.Len() != len(want) {
			t.Errorf("%s: % x, %d bytes", c.name, w.Done(), w.Len())
		}
	}
}

func TestLongText(t *testing.T) {
	s := strings.Repeat("x", 300)
	if got := written(func(w *Writer) { w.Text(s) }); string(got) != "\xac\x02"+s {
		t.Errorf("a text of 300 bytes: % x .., %d bytes", got[:2], len(got))
	}
}

func TestFormsOfNumbers(t *testing.T) {
	for _, x := range edges() {
		if got := written(func(w *Writer) { w.Uint(x) }); !bytes.Equal(got, digits(new(big.Int).SetUint64(x))) {
			t.Errorf("Uint(%d): % x", x, got)
		}
		if got := written(func(w *Writer) { w.Word(x) }); !bytes.Equal(got, binary.BigEndian.AppendUint64(nil, x)) {
			t.Errorf("Word(%d): % x", x, got)
		}
	}
	for _, n := range signed() {
		x := big.NewInt(n)
		if x.Lsh(x, 1); n < 0 {
			x.Not(x) // -2n - 1
		}
		if got := written(func(w *Writer) { w.Int(n) }); !bytes.Equal(got, digits(x)) {
			t.Errorf("Int(%d): % x", n, got)
		}
	}
}

func TestWriterPutsBehind(t *testing.T) {
	w := NewWriter()
	if w.Len() != 0 || len(w.Done()) != 0 {
		t.Error("a new writer holds something")
	}
	w.Byte(7)
	w.Uint(300)
	w.Int(-2)
	w.Word(1)
	w.Text("hi")
	w.Raw([]byte{9})
	want := unhex(t, "07 ac 02 03 00 00 00 00 00 00 00 01 02 68 69 09")
	if !bytes.Equal(w.Done(), want) || w.Len() != len(want) {
		t.Errorf("% x, %d bytes", w.Done(), w.Len())
	}
}

func TestDoneChangesNothing(t *testing.T) {
	w := NewWriter()
	var want []byte
	for i := range 100 {
		a, b := w.Done(), w.Done()
		if !bytes.Equal(a, want) || !bytes.Equal(b, want) || w.Len() != i {
			t.Fatalf("behind %d bytes: % x, % x, %d", i, a, b, w.Len())
		}
		w.Byte(byte(i))
		want = append(want, byte(i))
	}
}

func TestDoneIsNewMemory(t *testing.T) {
	w := NewWriter()
	w.Raw([]byte{1, 2, 3})
	a, b := w.Done(), w.Done()
	clear(a[:cap(a)])
	if !bytes.Equal(b, []byte{1, 2, 3}) || !bytes.Equal(w.Done(), []byte{1, 2, 3}) {
		t.Error("an answer of Done is shared")
	}
	w.Byte(4)
	w.Byte(5)
	clear(b[:cap(b)])
	if !bytes.Equal(a, []byte{0, 0, 0}) || !bytes.Equal(w.Done(), []byte{1, 2, 3, 4, 5}) {
		t.Error("the spare room of an answer of Done is shared")
	}
}

func TestRawKeepsAndChangesNothing(t *testing.T) {
	b := []byte{1, 2, 3, 4}
	w := NewWriter()
	w.Raw(b[:2])
	w.Byte(9)
	if !bytes.Equal(b, []byte{1, 2, 3, 4}) {
		t.Error("what was handed in is changed")
	}
	b[0] = 77
	if !bytes.Equal(w.Done(), []byte{1, 2, 9}) {
		t.Error("what was handed in is kept")
	}
}

func TestTwoWriters(t *testing.T) {
	a, b := NewWriter(), NewWriter()
	a.Byte(1)
	b.Text("x")
	a.Byte(2)
	if !bytes.Equal(a.Done(), []byte{1, 2}) || !bytes.Equal(b.Done(), []byte{1, 'x'}) {
		t.Errorf("% x, % x", a.Done(), b.Done())
	}
}

func TestUintLen(t *testing.T) {
	for _, c := range []struct {
		x    uint64
		want int
	}{{0, 1}, {1, 1}, {127, 1}, {128, 2}, {1<<14 - 1, 2}, {1 << 14, 3}, {1<<63 - 1, 9}, {1 << 63, 10}, {1<<64 - 1, 10}} {
		if got := UintLen(c.x); got != c.want {
			t.Errorf("UintLen(%d) = %d", c.x, got)
		}
	}
	for _, x := range edges() {
		if got := written(func(w *Writer) { w.Uint(x) }); UintLen(x) != len(got) {
			t.Errorf("UintLen(%d) = %d, Uint writes % x", x, UintLen(x), got)
		}
	}
}

func TestWordsInOrder(t *testing.T) {
	l := edges()
	for _, x := range l {
		a := written(func(w *Writer) { w.Word(x) })
		for _, y := range l {
			b := written(func(w *Writer) { w.Word(y) })
			if (x < y) != (bytes.Compare(a, b) < 0) {
				t.Fatalf("%d, %d: % x, % x", x, y, a, b)
			}
		}
	}
}
