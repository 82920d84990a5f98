package digest

import (
	"bytes"
	"crypto/sha256"
	"math/rand"
	"testing"
)

// P2.2: the chapter's example.
func TestHashGoesOnBehindSum(t *testing.T) {
	h := New()
	h.Write([]byte("a"))
	a := h.Sum()
	h.Write([]byte("bc"))
	if a != Sum([]byte("a")) || h.Sum() != Sum([]byte("abc")) || h.Sum() != Sum([]byte("abc")) {
		t.Error("a, then bc")
	}
}

// P2.2: New's holds none, and empty pieces add none.
func TestHashOfNoBytes(t *testing.T) {
	h := New()
	want := sha256.Sum256(nil)
	if h.Sum() != want || h.Sum() != want {
		t.Error("New holds bytes")
	}
	h.Write(nil)
	h.Write([]byte{})
	h.Write(counted(70)[:0])
	if h.Sum() != want {
		t.Error("empty pieces are bytes")
	}
}

// P2.2: what comes behind a Sum is seen, though it is zeros, of which the open block may have been full already.
func TestHashSeesZerosBehindSum(t *testing.T) {
	for ahead := range 130 {
		h, all := New(), counted(ahead)
		h.Write(all)
		for range 140 {
			if h.Sum() != sha256.Sum256(all) {
				t.Fatalf("%d bytes and %d zeros", ahead, len(all)-ahead)
			}
			h.Write([]byte{0})
			all = append(all, 0)
		}
	}
}

// P2.2: a whole block, and two, come between one Sum and the next.
func TestHashSeesWholeBlocksBehindSum(t *testing.T) {
	for _, n := range []int{64, 128, 64 * 64} {
		for _, piece := range [][]byte{make([]byte, n), counted(n)} {
			h := New()
			var all []byte
			for range 4 {
				h.Sum()
				h.Write(piece)
				all = append(all, piece...)
				if h.Sum() != sha256.Sum256(all) {
					t.Fatalf("pieces of %d bytes, %d in all", n, len(all))
				}
			}
		}
	}
}

// P2.2: two hashes, between which the calls go to and fro.
func TestHashesKnowNothingOfOneAnother(t *testing.T) {
	one, two := New(), New()
	var first, second []byte
	for i := range 300 {
		one.Write([]byte{byte(i)})
		first = append(first, byte(i))
		if i%3 == 0 {
			two.Write([]byte{byte(i), 9})
			second = append(second, byte(i), 9)
		}
		if one.Sum() != sha256.Sum256(first) || two.Sum() != sha256.Sum256(second) || New().Sum() != sha256.Sum256(nil) {
			t.Fatalf("behind %d calls", i)
		}
	}
}

// P2.2, R4: neither the bytes that were written nor the digests that were answered lead into the hash.
func TestHashKeepsItsOwn(t *testing.T) {
	h, b := New(), counted(90)
	h.Write(b)
	want := Sum(b)
	clear(b)
	d := h.Sum()
	d[3]++
	if h.Sum() != want {
		t.Error("a hash follows what was handed to it, or what it answered")
	}
}

// P2.5: each cut into two pieces, with a Sum at the cut and without.
func TestHashInTwoPieces(t *testing.T) {
	for _, n := range []int{1, 55, 56, 63, 64, 65, 127, 128, 129, 200} {
		b := counted(n)
		want := sha256.Sum256(b)
		for cut := range n + 1 {
			h, asked := New(), New()
			h.Write(b[:cut])
			asked.Write(b[:cut])
			if asked.Sum() != sha256.Sum256(b[:cut]) {
				t.Fatalf("the first %d of %d bytes", cut, n)
			}
			h.Write(b[cut:])
			asked.Write(b[cut:])
			if h.Sum() != want || asked.Sum() != want {
				t.Fatalf("%d bytes cut at %d", n, cut)
			}
		}
	}
}

// P2.5: any pieces, empty ones among them, with Sums anywhere between them.
func TestHashInAnyPieces(t *testing.T) {
	r := rand.New(rand.NewSource(2))
	for range 300 {
		h := New()
		var all []byte
		for range r.Intn(20) {
			piece := make([]byte, r.Intn(200)>>r.Intn(9))
			if r.Intn(3) > 0 {
				r.Read(piece)
			}
			h.Write(piece)
			all = append(all, piece...)
			if r.Intn(2) == 0 && h.Sum() != Sum(all) {
				t.Fatalf("Sum behind %d bytes", len(all))
			}
		}
		if h.Sum() != Sum(all) || Sum(all) != sha256.Sum256(all) {
			t.Fatalf("Sum of %d bytes", len(all))
		}
	}
}

// P2.5: byte by byte, each Sum asked.
func TestHashByteByByte(t *testing.T) {
	h, all := New(), bytes.Repeat(counted(100), 4)
	for i, b := range all {
		h.Write([]byte{b})
		if h.Sum() != sha256.Sum256(all[:i+1]) {
			t.Fatalf("behind %d bytes", i+1)
		}
	}
}
