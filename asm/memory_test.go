package asm

import (
	"math/rand"
	"testing"
	"unsafe"

	"portage/api"
)

// spread fills all lists of a program, their spare room included, with what stands nowhere.
func spread(p api.Program) {
	fill := api.Instr{Op: 77, A: 77}
	for _, f := range p.Funcs {
		for i := range f.Code[:cap(f.Code)] {
			f.Code[:cap(f.Code)][i] = fill
		}
		for i := range f.Handlers[:cap(f.Handlers)] {
			f.Handlers[:cap(f.Handlers)][i] = api.Handler{From: 77}
		}
	}
	for i := range p.Consts[:cap(p.Consts)] {
		p.Consts[:cap(p.Consts)][i] = api.Const{Kind: 77}
	}
	for i := range p.Funcs[:cap(p.Funcs)] {
		p.Funcs[:cap(p.Funcs)][i] = api.Function{Name: "77"}
	}
}

// R4: answers share nothing with one another.
func TestAnswersAreNew(t *testing.T) {
	r := rand.New(rand.NewSource(4))
	for range 1000 {
		want := someProgram(r)
		text := someText(r, want)
		p, _, _ := Parse(text)
		q, _, _ := Parse(text)
		spread(q)
		if !alike(p, want) {
			t.Fatal("the first answer became", p)
		}
		if again, _, _ := Parse(text); !alike(again, want) {
			t.Fatal("asked again it is", again)
		}
	}
}

// R4: no two lists of one answer share anything, their spare room included.
func TestListsAreApart(t *testing.T) {
	r := rand.New(rand.NewSource(44))
	for range 1000 {
		want := someProgram(r)
		p, _, _ := Parse(someText(r, want))
		for k := range p.Funcs {
			f := p.Funcs[k]
			for i := len(f.Code); i < cap(f.Code); i++ {
				f.Code[:cap(f.Code)][i] = api.Instr{Op: 77}
			}
			for i := len(f.Handlers); i < cap(f.Handlers); i++ {
				f.Handlers[:cap(f.Handlers)][i] = api.Handler{From: 77}
			}
		}
		if !alike(p, want) {
			t.Fatal("it became", p)
		}
		clear(p.Funcs[0].Code)
		clear(p.Funcs[0].Handlers)
		p.Funcs[0], want.Funcs[0] = api.Function{}, api.Function{}
		if !alike(p, want) {
			t.Fatal("without its first function it became", p)
		}
	}
}

// lies tells whether a string is a piece of another one's memory.
func lies(s, whole string) bool {
	if s == "" {
		return false
	}
	at, from := uintptr(unsafe.Pointer(unsafe.StringData(s))), uintptr(unsafe.Pointer(unsafe.StringData(whole)))
	return from <= at && at < from+uintptr(len(whole))
}

// R4: a text that is handed in is not kept by the names and texts that are made out of it.
func TestTextIsNotKept(t *testing.T) {
	r := rand.New(rand.NewSource(444))
	for range 1000 {
		text := someText(r, someProgram(r))
		p, _, _ := Parse(text)
		for _, f := range p.Funcs {
			if lies(f.Name, text) {
				t.Fatal("a piece of the text:", f.Name)
			}
		}
		for _, c := range p.Consts {
			if lies(c.Text, text) {
				t.Fatal("a piece of the text:", c.Text)
			}
		}
		q := Quote(text)
		if back, _ := Unquote(q); lies(q, text) || lies(back, q) {
			t.Fatal("a piece of its argument")
		}
	}
}
