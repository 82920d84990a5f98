package profile

import (
	"bytes"
	"math/rand"
	"reflect"
	"slices"
	"testing"

	"portage/api"
)

// scrawled is what is written over all that is not to be seen elsewhere.
func scrawled() api.Spot { return api.Spot{Count: 50, A: 50, B: 50, Callee: 50} }

// scrawl writes over a list, all of its room and what is laid behind it.
func scrawl[T any](l []T, x T) {
	for _, l := range [][]T{append(l, x), l} {
		l = l[:cap(l)]
		for i := range l {
			l[i] = x
		}
	}
}

// scrawlAll writes over all lists of a profile, the inner ones first.
func scrawlAll(f api.Profile) {
	for _, l := range f.Funcs {
		scrawl(l, scrawled())
	}
	scrawl(f.Funcs, spots(scrawled()))
}

// roomy is a copy of a profile all of whose lists have spare room that is filled.
func roomy(f api.Profile) api.Profile {
	g := copied(f)
	for fn, l := range g.Funcs {
		g.Funcs[fn] = append(l, scrawled(), scrawled())[:len(l)]
	}
	g.Funcs = append(g.Funcs, spots(scrawled()))[:len(f.Funcs)]
	return g
}

// whole is a copy of a profile with all that lies in its lists' room.
func whole(f api.Profile) api.Profile {
	var g api.Profile
	for _, l := range f.Funcs[:cap(f.Funcs)] {
		g.Funcs = append(g.Funcs, append([]api.Spot{}, l[:cap(l)]...))
	}
	return g
}

// R4: no call changes a profile, a program, bytes or operands that are handed in, spare room included.
func TestArgumentsStay(t *testing.T) {
	r := rand.New(rand.NewSource(4))
	for range 3000 {
		f, g := roomy(drawn(r, anySpot)), roomy(drawn(r, right))
		p := sized(2, 0, 3)
		args := kinds(1, 2, 3, 4)
		form, _ := Encode(g)
		room := append(form, 7, 7)
		wasF, wasG, wasForm := whole(f), whole(g), bytes.Clone(room)
		At(f, 0, 0)
		Merge(f, g)
		Hot(f, 0)
		Encode(f)
		Decode(room[:len(form)])
		b := New(p, f)
		b.Note(0, 0, args[:2], 1)
		b.Note(7, 7, args[:2], 1)
		b.Profile()
		if !alike(whole(f), wasF) || !alike(whole(g), wasG) || !bytes.Equal(room, wasForm) {
			t.Fatal("profiles or bytes became", whole(f), whole(g), room)
		}
		if !reflect.DeepEqual(p, sized(2, 0, 3)) || !slices.Equal(args, kinds(1, 2, 3, 4)) {
			t.Fatal("the program or the operands became", p, args)
		}
	}
}

// answers are all ways to a profile out of two, of which both are right.
func answers(t *testing.T, f, g api.Profile) []func() api.Profile {
	t.Helper()
	p := sized(sizes(f)...)
	book := New(p, f)
	form, err := Encode(f)
	if err != api.OK {
		t.Fatal(err)
	}
	return []func() api.Profile{
		func() api.Profile { return Merge(f, g) },
		func() api.Profile { return Merge(f, api.Profile{}) },
		func() api.Profile { return Merge(api.Profile{}, f) },
		func() api.Profile { h, _ := Decode(form); return h },
		func() api.Profile { return New(p, f).Profile() },
		book.Profile,
	}
}

// R4: a profile that is answered shares no memory with another answer, with what was handed in, or with what a book holds, and no two of its lists share any.
func TestAnswersAreNew(t *testing.T) {
	r := rand.New(rand.NewSource(44))
	for range 1500 {
		f, g := roomy(drawn(r, right)), roomy(drawn(r, right))
		wasF, wasG := whole(f), whole(g)
		for k, ask := range answers(t, f, g) {
			kept := ask()
			want := copied(kept)
			apart(t, ask())
			scrawlAll(ask())
			if !alike(kept, want) || !alike(ask(), want) {
				t.Fatal(k, "lies in another answer, or in a book:", kept, want)
			}
			if !alike(whole(f), wasF) || !alike(whole(g), wasG) {
				t.Fatal(k, "lies in what was handed in")
			}
		}
	}
}

// apart writes over each list of a profile, its room too, and asks whether another has changed.
func apart(t *testing.T, f api.Profile) {
	t.Helper()
	for fn := range f.Funcs {
		was := copied(f)
		scrawl(f.Funcs[fn], scrawled())
		for k := range f.Funcs {
			if k != fn && !slices.Equal(f.Funcs[k], was.Funcs[k]) {
				t.Fatal("list", k, "lies in the memory of list", fn)
			}
		}
	}
}

// R4: what was handed in isn't kept: answers and books stay when all of that is written over.
func TestNothingIsKept(t *testing.T) {
	r := rand.New(rand.NewSource(444))
	for range 1500 {
		f, g := roomy(drawn(r, right)), roomy(drawn(r, right))
		p := sized(sizes(f)...)
		form, _ := Encode(f)
		merged := Merge(f, g)
		read, _ := Decode(form)
		book := New(p, f)
		args := kinds(1, 2)
		book.Note(0, 0, args, 3)
		wantMerged, wantRead, wantHeld := copied(merged), copied(read), copied(book.Profile())
		scrawlAll(f)
		scrawlAll(g)
		scrawl(form, 50)
		scrawl(args, api.Value{Kind: 9})
		for fn := range p.Funcs {
			p.Funcs[fn].Code = nil
		}
		scrawl(p.Funcs, api.Function{Code: make([]api.Instr, 9)})
		if !alike(merged, wantMerged) || !alike(read, wantRead) || !alike(book.Profile(), wantHeld) {
			t.Fatal("an answer or a book became", merged, read, book.Profile())
		}
	}
}

// R4: lists of functions and bytes that are answered are the asker's own.
func TestListsAreNew(t *testing.T) {
	f := of(spots(api.Spot{Count: 1}), spots(api.Spot{Count: 2}), spots(api.Spot{Count: 3}))
	a, b := Hot(f, 2), Hot(f, 2)
	scrawl(a, 77)
	if !slices.Equal(b, []int{2, 1}) || !slices.Equal(Hot(f, 2), []int{2, 1}) {
		t.Error("it became", b)
	}
	x, _ := Encode(f)
	y, _ := Encode(f)
	scrawl(x, 77)
	if z, _ := Encode(f); !bytes.Equal(y, written(f)) || !bytes.Equal(z, written(f)) {
		t.Error("it became", y, z)
	}
}

// R3: nil and an empty list mean the same.
func TestEmptyLists(t *testing.T) {
	empty := api.Profile{Funcs: [][]api.Spot{}}
	if b, err := Encode(empty); string(b) != "PTF\x01\x00" || err != api.OK {
		t.Error(b, err)
	}
	if b, err := Encode(of(spots())); string(b) != "PTF\x01\x01\x00" || err != api.OK {
		t.Error(b, err)
	}
	if b, err := Encode(of([]api.Spot{})); string(b) != "PTF\x01\x01\x00" || err != api.OK {
		t.Error(b, err)
	}
	p := api.Program{Funcs: []api.Function{{Code: []api.Instr{}}, {}}}
	for _, from := range []api.Profile{{}, empty, of(nil, nil), of([]api.Spot{}, nil)} {
		b := New(p, from)
		b.Note(0, 0, []api.Value{}, 0)
		b.Note(0, 0, nil, 0)
		if f := b.Profile(); !alike(f, of(nil, nil)) {
			t.Error(f)
		}
	}
	if _, err := Decode([]byte{}); err != api.ErrShort {
		t.Error(err)
	}
}
