package profile

import (
	"testing"

	"portage/api"
)

// The greatest program that is well-formed: its book is as long, and every place of it is one that is noted.
func TestGreatestBook(t *testing.T) {
	var p api.Program
	for range api.MaxFuncs {
		p.Funcs = append(p.Funcs, api.Function{Code: make([]api.Instr, api.MaxCode)})
	}
	b := New(p, api.Profile{})
	for fn := range api.MaxFuncs {
		for pc := range api.MaxCode {
			for range 1 + (fn+pc)%2 {
				b.Note(fn, pc, kinds(pc%10), fn+1)
			}
		}
	}
	f := b.Profile()
	for fn := range api.MaxFuncs {
		for pc := range api.MaxCode {
			want := api.Spot{Count: int64(1 + (fn+pc)%2), A: 1 << (pc % 10), Callee: fn + 1}
			if got := At(f, fn, pc); got != want {
				t.Fatalf("%d %d: %v, not %v", fn, pc, got, want)
			}
		}
	}
	if !alike(Merge(f, api.Profile{}), f) || len(Hot(f, 1)) != api.MaxFuncs || len(Hot(f, 2)) != api.MaxFuncs/2 {
		t.Error("Merge or Hot")
	}
}

// Sizes beyond the limits: books, Merge and Hot have none.
func TestBeyondTheLimits(t *testing.T) {
	const funcs, long = 3000, 100000
	l := make([]int, funcs)
	l[funcs-1] = long
	p := sized(l...)
	b := New(p, api.Profile{})
	b.Note(funcs-1, long-1, kinds(9), 3000)
	b.Note(funcs-1, long, kinds(9), 3000)
	b.Note(0, 0, kinds(9), 3000)
	f := b.Profile()
	if len(f.Funcs) != funcs || len(f.Funcs[funcs-1]) != long || At(f, funcs-1, long-1) != (api.Spot{Count: 1, A: 512, Callee: 3000}) {
		t.Error("the book")
	}
	if g := Merge(f, f); len(g.Funcs) != funcs || At(g, funcs-1, long-1) != (api.Spot{Count: 2, A: 512, Callee: 3000}) {
		t.Error("Merge")
	}
	hot := Hot(f, 0)
	for fn := range funcs {
		if hot[fn] != fn {
			t.Fatal(fn, hot[fn])
		}
	}
	if _, err := Encode(f); err != api.ErrMany {
		t.Error(err)
	}
}
