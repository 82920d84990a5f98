package digest

import (
	"bytes"
	"crypto/sha256"
	"math/rand"
	"strings"
	"testing"
)

// counted are n bytes, no two neighbours alike.
func counted(n int) []byte {
	b := make([]byte, n)
	for i := range b {
		b[i] = byte(i*7 + 1)
	}
	return b
}

// P2.1: the examples, and others that FIPS 180-4's own examples give.
func TestSumOfKnownTexts(t *testing.T) {
	for _, c := range []struct{ text, hex string }{
		{"", "e3b0c44298fc1c149afbf4c8996fb92427ae41e4649b934ca495991b7852b855"},
		{"abc", "ba7816bf8f01cfea414140de5dae2223b00361a396177a9cb410ff61f20015ad"},
		{"abcdbcdecdefdefgefghfghighijhijkijkljklmklmnlmnomnopnopq", "248d6a61d20638b8e5c026930c3e6039a33ce45964ff2167f6ecedd419db06c1"},
		{strings.Repeat("a", 1000000), "cdc76e5c9914fb9281a1c7e284d73e67f1809a48a497200e046d39ccc7112cd0"},
		{"\xbd", "68325720aabd7c82f30f554b313d0570c95accbb7dc4b5aae11204c08ffe732b"},
		{"\xc9\x8c\x8e\x55", "7abc22c0ae5af26ce93dbb94433a0e0b2e119d014f8e7f65bd56c61ccccd9504"},
	} {
		if got := Hex(Sum([]byte(c.text))); got != c.hex {
			t.Errorf("Sum of %d bytes = %s, not %s", len(c.text), got, c.hex)
		}
	}
	if Hex(Sum(nil)) != Hex(Sum([]byte{})) || Sum(nil) != sha256.Sum256(nil) {
		t.Error("no list and an empty one are told apart")
	}
}

// P2.1: every length around the places where the padding needs another block.
func TestSumOfEveryLength(t *testing.T) {
	for n := range 400 {
		for _, b := range [][]byte{counted(n), make([]byte, n), bytes.Repeat([]byte{0x80}, n), bytes.Repeat([]byte{0xff}, n)} {
			if got, want := Sum(b), sha256.Sum256(b); got != want {
				t.Fatalf("Sum of %d bytes = %x, not %x", n, got, want)
			}
		}
	}
}

// P2.1: the number of bits has more than three bytes.
func TestSumOfManyBytes(t *testing.T) {
	for _, n := range []int{1<<13 - 1, 1 << 13, 1<<16 + 55, 1<<21 - 1, 1<<21 + 56} {
		if b := counted(n); Sum(b) != sha256.Sum256(b) {
			t.Errorf("Sum of %d bytes", n)
		}
	}
}

// P2.1, P2.2, P2.4, R4: what is handed in stays as it was, its spare room too.
func TestArgumentsStay(t *testing.T) {
	for _, n := range []int{0, 1, 32, 55, 56, 64, 100} {
		b := append(counted(n), bytes.Repeat([]byte{3}, 100)...)
		was := bytes.Clone(b)
		Sum(b[:n])
		From(b[:n])
		h := New()
		h.Write(b[:n])
		h.Sum()
		if !bytes.Equal(b, was) {
			t.Errorf("%d bytes were changed", n)
		}
	}
}

// P2.3
func TestHex(t *testing.T) {
	var d [Size]byte
	if got := Hex(d); got != strings.Repeat("0", 64) {
		t.Errorf("Hex of zeros = %s", got)
	}
	for i := range d {
		d[i] = byte(i)<<4 | byte(15-i%16)
	}
	const want = "0f1e2d3c4b5a69788796a5b4c3d2e1f00f1e2d3c4b5a69788796a5b4c3d2e1f0"
	if got := Hex(d); got != want {
		t.Errorf("Hex = %s, not %s", got, want)
	}
}

// P2.3: each byte at each place has its own two digits.
func TestHexOfEachByte(t *testing.T) {
	const digits = "0123456789abcdef"
	for place := range Size {
		for b := range 256 {
			var d [Size]byte
			d[place] = byte(b)
			want := []byte(strings.Repeat("0", 64))
			want[2*place], want[2*place+1] = digits[b/16], digits[b%16]
			if got := Hex(d); got != string(want) {
				t.Fatalf("Hex of %d at %d = %s", b, place, got)
			}
		}
	}
}

// P2.4
func TestFrom(t *testing.T) {
	b := counted(Size)
	d, ok := From(b)
	if !ok || !bytes.Equal(d[:], b) {
		t.Errorf("From = %x, %v", d, ok)
	}
	b[0], b[31] = 200, 201
	if bytes.Equal(d[:], b) || d[0] != 1 {
		t.Error("a digest follows the bytes that it came from")
	}
	if d, ok := From(make([]byte, Size, 100)); !ok || d != ([Size]byte{}) {
		t.Error("From of zeros")
	}
}

// P2.4: wrong lengths, with bytes that must not be seen.
func TestFromOfOtherLengths(t *testing.T) {
	for n := range 200 {
		d, ok := From(counted(n))
		if ok != (n == Size) || !ok && d != ([Size]byte{}) {
			t.Errorf("From of %d bytes = %x, %v", n, d, ok)
		}
	}
	if d, ok := From(nil); ok || d != ([Size]byte{}) {
		t.Error("From of no bytes")
	}
	if _, ok := From(counted(100)[:31]); ok {
		t.Error("From reads behind its bytes")
	}
}

// P2.6
func TestFromAndHexTellDigestsApart(t *testing.T) {
	r := rand.New(rand.NewSource(1))
	seen := map[string][Size]byte{}
	for range 2000 {
		var d [Size]byte
		r.Read(d[:])
		d[0], d[31] = d[0]&1, d[31]&1
		for _, d := range [][Size]byte{d, Sum(d[:]), {5: d[0], 6: d[31]}} {
			if got, ok := From(d[:]); !ok || got != d {
				t.Fatalf("From(%x) = %x, %v", d, got, ok)
			}
			if was, ok := seen[Hex(d)]; ok && was != d {
				t.Fatalf("%x and %x have one Hex", was, d)
			}
			seen[Hex(d)] = d
		}
	}
}
