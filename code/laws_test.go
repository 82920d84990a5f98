package code

import (
	"bytes"
	"math/rand"
	"slices"
	"testing"

	"portage/api"
)

// P7.8: there, and back.
func TestThereAndBack(t *testing.T) {
	all := rows(t)
	r := rand.New(rand.NewSource(78))
	for k := range 3000 {
		most := 20
		if k%300 == 0 {
			most = api.MaxCode
		}
		l := someList(all, r, most)
		b, err := Encode(l)
		if err != api.OK {
			t.Fatal(l, err)
		}
		if back, err := Decode(b); !slices.Equal(back, l) || err != api.OK {
			t.Fatal(l, "comes back as", back, err)
		}
	}
}

// P7.8: the other way round: what Decode takes is the only form of what it answers.
func TestBackAndThere(t *testing.T) {
	r := rand.New(rand.NewSource(87))
	some := []byte{0, 4, 7, 8, 10, 24, 32, 40, 43, 62, 64, 66, 127, 128, 129, 255}
	taken := 0
	for range 200000 {
		b := make([]byte, r.Intn(7))
		for k := range b {
			b[k] = some[r.Intn(len(some))]
		}
		l, err := Decode(b)
		if err != api.OK {
			continue
		}
		taken++
		if again, err := Encode(l); !bytes.Equal(again, b) || err != api.OK {
			t.Fatal(b, "is written as", again, err)
		}
	}
	if taken < 1000 {
		t.Error("only", taken, "rows were taken")
	}
}

// P7.9: two lists one behind the other, up to MaxCode in all.
func TestOneBehindTheOther(t *testing.T) {
	all := rows(t)
	r := rand.New(rand.NewSource(79))
	for k := range 2000 {
		l, m := someList(all, r, 9), someList(all, r, 9)
		if k%200 == 0 {
			l = someList(all, r, api.MaxCode)
			m = make([]api.Instr, api.MaxCode-len(l))
		}
		a, _ := Encode(l)
		b, _ := Encode(m)
		if c, err := Encode(slices.Concat(l, m)); !bytes.Equal(c, slices.Concat(a, b)) || err != api.OK {
			t.Fatal(l, m, err)
		}
	}
}

// P7.10: each beginning of the bytes of a list.
func TestBeginnings(t *testing.T) {
	all := rows(t)
	r := rand.New(rand.NewSource(710))
	for range 2000 {
		l := someList(all, r, 9)
		b, _ := Encode(l)
		ends := map[int]int{0: 0} // how many instructions end at a byte
		for n := range l {
			part, _ := Encode(l[:n+1])
			ends[len(part)] = n + 1
		}
		for k := range len(b) + 1 {
			back, err := Decode(b[:k])
			if n, whole := ends[k]; whole && (err != api.OK || !slices.Equal(back, l[:n])) {
				t.Fatal(l, "up to byte", k, "is", back, err)
			} else if !whole && (err != api.ErrShort || len(back) != 0) {
				t.Fatal(l, "cut at byte", k, "is", back, err)
			}
		}
	}
}

// P7.11: jumps are what has a place; what ends puts nothing.
func TestJumpsAndEnds(t *testing.T) {
	ends := 0
	for op := range api.Ops {
		if kind, _ := Operand(op); Jumps(op) != (kind == Place) {
			t.Error("Jumps of", op)
		}
		if _, puts, ok := Effect(api.Instr{Op: op}); Ends(op) {
			ends++
			if puts != 0 || !ok {
				t.Error("what", op, "puts")
			}
		}
	}
	if ends != 3 {
		t.Error(ends, "operations end")
	}
}
