package verify

import (
	"bytes"
	"math/rand"
	"slices"
	"testing"

	"portage/api"
	"portage/program"
)

// R3: no list and an empty one are the same.
func TestEmptyLists(t *testing.T) {
	p := alone(list(nilIns, retIns))
	a, _, _ := Program(p)
	p.Consts, p.Funcs[0].Handlers = []api.Const{}, []api.Handler{}
	if b, at, err := Program(p); err != api.OK || at != (api.Place{}) || !sameFacts(a, b) {
		t.Error(a, b, at, err)
	}
	p.Funcs[0].Code = []api.Instr{}
	refused(t, p, 0, 0, api.ErrShort)
	refused(t, api.Program{Consts: []api.Const{}, Funcs: []api.Function{}}, 0, 0, api.ErrShort)
	if p, f, err := Load([]byte{}); err != api.ErrShort || len(p.Funcs) != 0 || !noFacts(f) {
		t.Error(p, f, err)
	}
}

// roomy is a program all of whose lists have spare room, filled with what is nowhere right.
func roomy(p api.Program) api.Program {
	p = copied(p)
	p.Consts = append(p.Consts, api.Const{Kind: 77})[:len(p.Consts)]
	for k := range p.Funcs {
		f := &p.Funcs[k]
		f.Code = append(f.Code, ins(77, 77))[:len(f.Code)]
		f.Handlers = append(f.Handlers, api.Handler{From: 77})[:len(f.Handlers)]
	}
	p.Funcs = append(p.Funcs, api.Function{Name: "77"})[:len(p.Funcs)]
	return p
}

// isRoomy tells whether a roomy program of this one is what it was, its spare room included.
func isRoomy(p, was api.Program) bool {
	if !samePrograms(p, was) || p.Consts[:len(p.Consts)+1][len(p.Consts)] != (api.Const{Kind: 77}) || p.Funcs[:len(p.Funcs)+1][len(p.Funcs)].Name != "77" {
		return false
	}
	for _, f := range p.Funcs {
		if f.Code[:len(f.Code)+1][len(f.Code)] != ins(77, 77) || f.Handlers[:len(f.Handlers)+1][len(f.Handlers)] != (api.Handler{From: 77}) {
			return false
		}
	}
	return true
}

// R4: a program and bytes that are handed in stay what they were, and are not kept.
func TestArgumentsAreKept(t *testing.T) {
	r := rand.New(rand.NewSource(4))
	for range 1000 {
		p, facts := someProgram(r, 12)
		if r.Intn(3) == 0 {
			p = copied(p)
			spoil(r, &p)
			facts, _, _ = meant(p)
		}
		q := roomy(p)
		f, _, _ := Program(q)
		if !isRoomy(q, p) {
			t.Fatal(p, "became", q)
		}
		for k := range q.Funcs {
			clear(q.Funcs[k].Code)
			clear(q.Funcs[k].Handlers)
		}
		if !sameFacts(f, facts) {
			t.Fatal("the facts became", f)
		}
	}
}

// R4: bytes that are handed in stay what they were, and are not kept.
func TestBytesAreKept(t *testing.T) {
	r := rand.New(rand.NewSource(44))
	for range 500 {
		p, facts := someProgram(r, 12)
		b, _ := program.Encode(p)
		c := append(slices.Clone(b), 77)
		q, f, err := Load(c[:len(b)])
		if !bytes.Equal(c, append(slices.Clone(b), 77)) {
			t.Fatalf("%x became %x", b, c)
		}
		clear(c)
		if err != api.OK || !samePrograms(p, q) || !sameFacts(f, facts) {
			t.Fatal("the answer became", q, f, err)
		}
	}
}

// lists are all lists of facts but the outer one of Heights.
func lists(f api.Facts) []*[]int {
	l := []*[]int{&f.Most}
	for k := range f.Heights {
		l = append(l, &f.Heights[k])
	}
	return l
}

// spoilt fills a list and its spare room.
func spoilt(l []int) {
	l = l[:cap(l)]
	for i := range l {
		l[i] = -77
	}
}

// R4: no list of an answer shares memory with another, its spare room included, nor with another answer.
func TestAnswerIsNew(t *testing.T) {
	r := rand.New(rand.NewSource(444))
	for range 300 {
		p, want := someProgram(r, 12)
		b, _ := program.Encode(p)
		for k := range lists(want) {
			f, _, _ := Program(p)
			other, _, _ := Program(p)
			q, loaded, _ := Load(b)
			spoilt(*lists(f)[k])
			if !sameFacts(other, want) || !sameFacts(loaded, want) || !samePrograms(p, q) {
				t.Fatal("another answer became", other, loaded, q)
			}
			for j, l := range lists(f) {
				if j != k && !slices.Equal(*l, *lists(want)[j]) {
					t.Fatal("another list became", *l)
				}
			}
			spoilt(*lists(loaded)[k])
			if again, more, _ := Load(b); !samePrograms(p, again) || !sameFacts(more, want) {
				t.Fatal("the next answer became", again, more)
			}
			for j, l := range lists(loaded) {
				if j != k && !slices.Equal(*l, *lists(want)[j]) {
					t.Fatal("another list became", *l)
				}
			}
		}
	}
}

// R5: the same is answered again, whatever was asked between.
func TestAskedAgain(t *testing.T) {
	r := rand.New(rand.NewSource(5))
	p, facts := someProgram(r, 40)
	for range 200 {
		q, _ := someProgram(r, 12)
		spoil(r, &q)
		Program(q)
		if f, at, err := Program(p); err != api.OK || at != (api.Place{}) || !sameFacts(f, facts) {
			t.Fatal(f, at, err)
		}
	}
}
