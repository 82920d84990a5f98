package program

import (
	"bytes"
	"fmt"
	"math/rand"
	"slices"
	"testing"

	"portage/api"
)

// wellFormed are programs that Check takes.
func wellFormed(r *rand.Rand, n int) []api.Program {
	l := []api.Program{first(), full()}
	for len(l) < n {
		p := someProgram(r)
		if r.Intn(4) == 0 {
			spoil(r, &p)
		}
		if _, err := Check(p); err == api.OK {
			l = append(l, p)
		}
	}
	return l
}

// P8.6: every program comes back from its bytes, and no two unlike ones have the same.
func TestThereAndBack(t *testing.T) {
	owner := map[string]api.Program{}
	for _, p := range wellFormed(rand.New(rand.NewSource(86)), 20000) {
		b, err := Encode(p)
		if err != api.OK || !bytes.Equal(b, written(p)) {
			t.Fatalf("%v: %x %v", p, b, err)
		}
		if q, err := Decode(b); !alike(p, q) || err != api.OK {
			t.Fatalf("%v comes back as %v %v", p, q, err)
		}
		if q, known := owner[string(b)]; known && !alike(p, q) {
			t.Fatal(p, "and", q, "have the same bytes")
		}
		owner[string(b)] = p
	}
}

// P8.7: no proper beginning, and nothing longer.
func TestBeginningsAndEnds(t *testing.T) {
	r := rand.New(rand.NewSource(87))
	for _, p := range wellFormed(r, 400) {
		b, _ := Encode(p)
		if len(b) > 2000 {
			continue
		}
		for k := range b {
			if q, err := Decode(b[:k]); err != api.ErrShort || !alike(q, api.Program{}) {
				t.Fatalf("%x up to %d: %v %v", b, k, q, err)
			}
		}
		for _, more := range [][]byte{{0}, {1}, {255}, b, make([]byte, 1+r.Intn(50))} {
			if q, err := Decode(slices.Concat(b, more)); err != api.ErrLong || !alike(q, api.Program{}) {
				t.Fatalf("%x and %x: %v %v", b, more, q, err)
			}
		}
	}
}

// staysWellFormed asks Check, which must take the program.
func staysWellFormed(t *testing.T, what string, p api.Program) {
	t.Helper()
	if at, err := Check(p); err != api.OK || at != (api.Place{}) {
		t.Fatalf("%s: %v %v %v", what, p, at, err)
	}
}

// P8.8: what a well-formed program can lose.
func TestLosing(t *testing.T) {
	for _, p := range wellFormed(rand.New(rand.NewSource(88)), 2000) {
		for k, f := range p.Funcs {
			for pc := range min(len(f.Code), 20) {
				q := deep(p)
				q.Funcs[k].Code[pc] = api.Instr{}
				staysWellFormed(t, "a nop", q)
			}
			for h := range f.Handlers {
				q := deep(p)
				q.Funcs[k].Handlers = slices.Delete(q.Funcs[k].Handlers, h, h+1)
				staysWellFormed(t, "a handler taken away", q)
			}
		}
	}
}

// P8.8: what can be put behind a well-formed program, up to the limits.
func TestGrowing(t *testing.T) {
	for k, p := range wellFormed(rand.New(rand.NewSource(888)), 600) {
		rounds := 3
		if k < 3 {
			rounds = api.MaxConsts
		}
		for n := range rounds {
			if len(p.Consts) < api.MaxConsts {
				more := text(fmt.Sprint("another", n))
				if n%2 == 0 {
					more = bits(0x4010000000000000 + uint64(n))
				}
				p.Consts = append(slices.Clone(p.Consts), more)
			}
			if len(p.Funcs) < api.MaxFuncs {
				p.Funcs = append(slices.Clone(p.Funcs), nops(fmt.Sprint("another", n), 1))
			}
			staysWellFormed(t, "one more", p)
		}
	}
}
