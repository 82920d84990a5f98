package listing

import (
	"math/rand"
	"slices"
	"testing"
	"unsafe"

	"portage/api"
)

// R3: no list and an empty one are the same.
func TestEmptyLists(t *testing.T) {
	p := alone([]api.Instr{{}})
	p.Consts, p.Funcs[0].Handlers = []api.Const{}, []api.Handler{}
	listed(t, "empty lists", p, "func main 0 0\n  nop\n", api.OK)
	p.Funcs[0].Code = []api.Instr{}
	listed(t, "no instruction", p, "", api.ErrShort)
	listed(t, "no function", api.Program{Consts: []api.Const{}, Funcs: []api.Function{}}, "", api.ErrShort)
	c := block(0, nil, api.RIns{Exit: []api.Shape{{}}})
	d := block(0, []int{}, api.RIns{Args: []api.Opnd{}, Exit: []api.Shape{{Slots: []api.Opnd{}}}})
	if Code(c) != Code(d) || Code(api.Code{}) != Code(api.Code{Blocks: []api.Block{}}) {
		t.Errorf("%q, %q", Code(c), Code(d))
	}
}

// spare is a list with room behind it, filled with something that must stay.
func spare[T any](l []T, x T) []T { return append(slices.Clone(l), x)[: len(l) : len(l)+1] }

// behind is what lies in the room behind a list.
func behind[T any](l []T) T { return l[:len(l)+1][len(l)] }

// R4: a program that is handed in stays what it was, its spare room included.
func TestProgramIsKept(t *testing.T) {
	r := rand.New(rand.NewSource(40))
	nothing, none := api.Instr{Op: 77, A: 77}, api.Handler{From: 77}
	for range 1000 {
		p := someProgram(r)
		if r.Intn(3) == 0 {
			spoil(r, &p)
		}
		q := copied(p)
		q.Consts, q.Funcs = spare(q.Consts, api.Const{Kind: 77}), spare(q.Funcs, api.Function{Name: "77"})
		for k := range q.Funcs {
			f := &q.Funcs[k]
			f.Code, f.Handlers = spare(f.Code, nothing), spare(f.Handlers, none)
		}
		Program(q)
		Instr(q, api.Instr{Op: api.OpFunc, A: 0})
		kept := alike(p, q) && behind(q.Consts).Kind == 77 && behind(q.Funcs).Name == "77"
		for _, f := range q.Funcs {
			kept = kept && behind(f.Code) == nothing && behind(f.Handlers) == none
		}
		if !kept {
			t.Fatal(p, "became", q)
		}
	}
}

// R4: so does register code.
func TestCodeIsKept(t *testing.T) {
	r := rand.New(rand.NewSource(41))
	nothing := api.Opnd{Kind: 77, N: 77}
	for range 1000 {
		c := someCode(r)
		d := copiedCode(c)
		d.Blocks = spare(d.Blocks, api.Block{PC: 77})
		for k := range d.Blocks {
			b := &d.Blocks[k]
			b.Next, b.Ins = spare(b.Next, 77), spare(b.Ins, api.RIns{Op: 77})
			for j := range b.Ins {
				b.Ins[j].Args, b.Ins[j].Exit = spare(b.Ins[j].Args, nothing), spare(b.Ins[j].Exit, api.Shape{Fn: 77})
				for s := range b.Ins[j].Exit {
					b.Ins[j].Exit[s].Slots = spare(b.Ins[j].Exit[s].Slots, nothing)
				}
			}
		}
		Code(d)
		kept := sameCode(c, d) && behind(d.Blocks).PC == 77
		for _, b := range d.Blocks {
			kept = kept && behind(b.Next) == 77 && behind(b.Ins).Op == 77
			for _, i := range b.Ins {
				kept = kept && behind(i.Args) == nothing && behind(i.Exit).Fn == 77
				for _, s := range i.Exit {
					kept = kept && behind(s.Slots) == nothing
				}
			}
		}
		if !kept {
			t.Fatal(c, "became", d)
		}
	}
}

// lies tells whether a string is a piece of another one's memory.
func lies(s, whole string) bool {
	if s == "" {
		return false
	}
	at, from := uintptr(unsafe.Pointer(unsafe.StringData(s))), uintptr(unsafe.Pointer(unsafe.StringData(whole)))
	return from <= at && at < from+uintptr(len(whole))
}

// R4: a text is none of the program's own.
func TestTextsAreNew(t *testing.T) {
	p := sampleProgram(t)
	s, _ := Program(p)
	again, _ := Program(p)
	i, _ := Instr(p, api.Instr{Op: api.OpFunc, A: 1})
	if lies(s, again) || lies(again, s) || lies(i, p.Funcs[1].Name) || lies(s, p.Consts[1].Text) {
		t.Error("a piece of another text")
	}
	p.Funcs[0].Code[0].A, p.Funcs[1].Name, p.Consts[0].N = 9, "other", 0
	if s != lines(sampleText) || i != "func half" {
		t.Errorf("the answers became %q, %q", s, i)
	}
}

// R5: what was asked ahead of it makes no difference.
func TestSameAgain(t *testing.T) {
	r := rand.New(rand.NewSource(42))
	var programs []api.Program
	var codes []api.Code
	var first []string
	for range 300 {
		p, c := someProgram(r), someCode(r)
		if r.Intn(3) == 0 {
			spoil(r, &p)
		}
		s, err := Program(p)
		programs, codes, first = append(programs, p), append(codes, c), append(first, s+err.Error()+Code(c))
	}
	for k := range slices.Backward(first) {
		s, err := Program(programs[k])
		if again := s + err.Error() + Code(codes[k]); again != first[k] {
			t.Fatalf("%q and then %q", first[k], again)
		}
	}
}
