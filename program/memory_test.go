package program

import (
	"bytes"
	"reflect"
	"slices"
	"testing"

	"portage/api"
)

// roomy is full with spare room behind every list, filled with things that must stay.
func roomy() (api.Program, func() bool) {
	p := full()
	consts := append(slices.Clone(p.Consts), text("spare"))
	p.Consts = consts[:len(consts)-1]
	funcs := append(slices.Clone(p.Funcs), nops("spare", 1))
	p.Funcs = funcs[:len(funcs)-1]
	var codes [][]api.Instr
	var handlers [][]api.Handler
	for k := range p.Funcs {
		l := append(slices.Clone(p.Funcs[k].Code), ins(api.OpBic, 99))
		p.Funcs[k].Code = l[:len(l)-1]
		h := append(slices.Clone(p.Funcs[k].Handlers), api.Handler{From: 99})
		p.Funcs[k].Handlers = h[:len(h)-1]
		codes, handlers = append(codes, l), append(handlers, h)
	}
	return p, func() bool {
		for k := range codes {
			if codes[k][len(codes[k])-1] != ins(api.OpBic, 99) || handlers[k][len(handlers[k])-1] != (api.Handler{From: 99}) {
				return false
			}
		}
		return consts[len(consts)-1] == text("spare") && reflect.DeepEqual(funcs[len(funcs)-1], nops("spare", 1)) && alike(p, full())
	}
}

// R4: a program that is handed in stays what it was, its spare room included.
func TestProgramIsKept(t *testing.T) {
	p, kept := roomy()
	Check(p)
	Encode(p)
	Digest(p)
	Find(p, "Z9")
	if !kept() {
		t.Error("it became", p)
	}
	p.Funcs[2].Code[0].Op = 67
	q := deep(p)
	Check(p)
	Encode(p)
	Digest(p)
	if !alike(p, q) {
		t.Error("it became", p)
	}
}

// R4: bytes that were answered are nobody else's.
func TestBytesAreNew(t *testing.T) {
	p := full()
	a, _ := Encode(p)
	b, _ := Encode(p)
	clear(b[:cap(b)])
	p.Consts[0], p.Funcs[0] = text(""), api.Function{}
	if string(a) != fullBytes {
		t.Errorf("the answer became %x", a)
	}
}

// wipe changes all that a program holds, the spare room of its lists included.
func wipe(p api.Program) {
	for k := range p.Funcs {
		clear(p.Funcs[k].Code[:cap(p.Funcs[k].Code)])
		clear(p.Funcs[k].Handlers[:cap(p.Funcs[k].Handlers)])
	}
	clear(p.Consts[:cap(p.Consts)])
	clear(p.Funcs[:cap(p.Funcs)])
}

// R4: a program that was answered shares nothing with the bytes, nor with another answer.
func TestProgramIsNew(t *testing.T) {
	whole := []byte(fullBytes + "spare")
	b := whole[:len(fullBytes)]
	p, _ := Decode(b)
	q, _ := Decode(b)
	wipe(q)
	if string(whole) != fullBytes+"spare" {
		t.Errorf("the bytes became %x", whole)
	}
	clear(whole)
	if !alike(p, full()) {
		t.Error("the answer became", p)
	}
}

// R4: no two lists of an answer share any memory.
func TestListsAreTheirOwn(t *testing.T) {
	for k := range 3 {
		p, _ := Decode([]byte(fullBytes))
		f := p.Funcs[k]
		f.Code = append(f.Code, ins(api.OpBic, 0), ins(api.OpBic, 0), ins(api.OpBic, 0))
		f.Handlers = append(f.Handlers, api.Handler{From: 9}, api.Handler{From: 9}, api.Handler{From: 9})
		clear(f.Code[:cap(f.Code)])
		clear(f.Handlers[:cap(f.Handlers)])
		want := full()
		clear(p.Funcs[k].Code)
		clear(p.Funcs[k].Handlers)
		clear(want.Funcs[k].Code)
		clear(want.Funcs[k].Handlers)
		if !alike(p, want) {
			t.Error(k, p)
		}
	}
}

// R3: nil and an empty list are the same program.
func TestEmptyLists(t *testing.T) {
	p := first()
	p.Consts, p.Funcs[0].Handlers = []api.Const{}, []api.Handler{}
	a, err := Encode(p)
	b, _ := Encode(first())
	if !bytes.Equal(a, b) || err != api.OK {
		t.Errorf("%x %x %v", a, b, err)
	}
	if q, err := Decode(nil); !alike(q, api.Program{}) || err != api.ErrShort {
		t.Error(q, err)
	}
}
