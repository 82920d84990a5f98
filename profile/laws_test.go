package profile

import (
	"bytes"
	"math/rand"
	"slices"
	"testing"

	"portage/api"
)

// P18.9: what has a form comes back from it, and no two unlike profiles have the same.
func TestThereAndBack(t *testing.T) {
	r := rand.New(rand.NewSource(189))
	owner := map[string]api.Profile{}
	for range 60000 {
		f := drawn(r, right)
		b, err := Encode(f)
		if err != api.OK || !bytes.Equal(b, written(f)) {
			t.Fatalf("%v: %x %v", f, b, err)
		}
		if g, err := Decode(b); err != api.OK || !alike(f, g) {
			t.Fatalf("%v comes back as %v %v", f, g, err)
		}
		if g, known := owner[string(b)]; known && !alike(f, g) {
			t.Fatal(f, "and", g, "have the same bytes")
		}
		owner[string(b)] = f
	}
}

// P18.9: no proper beginning, and nothing longer.
func TestBeginningsAndEnds(t *testing.T) {
	r := rand.New(rand.NewSource(190))
	for range 3000 {
		b, _ := Encode(drawn(r, right))
		for k := range b {
			if f, err := Decode(b[:k]); err != api.ErrShort || len(f.Funcs) > 0 {
				t.Fatalf("%x up to %d: %v %v", b, k, f, err)
			}
		}
		for _, more := range [][]byte{{0}, {1}, {255}, b, make([]byte, 1+r.Intn(50))} {
			if f, err := Decode(slices.Concat(b, more)); err != api.ErrLong || len(f.Funcs) > 0 {
				t.Fatalf("%x and %x: %v %v", b, more, f, err)
			}
		}
	}
}

// P18.10: Merge of whatever profiles, turned round, with nothing, and of three.
func TestMergeLaws(t *testing.T) {
	r := rand.New(rand.NewSource(191))
	for range 30000 {
		a, b, c := drawn(r, anySpot), drawn(r, anySpot), drawn(r, anySpot)
		if x, y := Merge(a, b), Merge(b, a); !alike(x, y) {
			t.Fatalf("%v and %v: %v, %v", a, b, x, y)
		}
		for _, none := range []api.Profile{{}, of()} {
			if x, y := Merge(a, none), Merge(none, a); !alike(x, a) || !alike(y, a) {
				t.Fatalf("%v and nothing: %v, %v", a, x, y)
			}
		}
		a, b, c = risen(a), risen(b), risen(c)
		if x, y := Merge(Merge(a, b), c), Merge(a, Merge(b, c)); !alike(x, y) {
			t.Fatalf("%v, %v and %v: %v, %v", a, b, c, x, y)
		}
	}
}

// P18.11: notes cut in two in every way that a coin says, in whatever order they come.
func TestCutAnywhere(t *testing.T) {
	r := rand.New(rand.NewSource(192))
	for range 6000 {
		p, from := sized(sizes(drawn(r, right))...), risen(drawn(r, anySpot))
		whole, one, other := New(p, from), New(p, from), New(p, api.Profile{})
		notes := someNotes(r, 30)
		noteAll(whole, notes)
		r.Shuffle(len(notes), func(i, k int) { notes[i], notes[k] = notes[k], notes[i] })
		cut := r.Intn(len(notes) + 1)
		noteAll(one, notes[:cut])
		noteAll(other, notes[cut:])
		want := whole.Profile()
		if got := Merge(one.Profile(), other.Profile()); !alike(got, want) {
			t.Fatalf("%v: %v, not %v", notes, got, want)
		}
		if got := Merge(other.Profile(), one.Profile()); !alike(got, want) {
			t.Fatalf("%v: %v, not %v", notes, got, want)
		}
	}
}

// P18.11: every cut of one row of notes, at the place of the cut and no other.
func TestCutEverywhere(t *testing.T) {
	r := rand.New(rand.NewSource(193))
	p, from := sized(2, 1), of(spots(api.Spot{Count: 3, A: 1, Callee: 2}))
	notes := slices.Clip(someNotes(r, 2)) // none, or one
	for range 40 {
		notes = append(notes, someNote(r))
	}
	whole := New(p, from)
	noteAll(whole, notes)
	for cut := range len(notes) + 1 {
		one, other := New(p, from), New(p, api.Profile{})
		noteAll(one, notes[:cut])
		noteAll(other, notes[cut:])
		if got, want := Merge(one.Profile(), other.Profile()), whole.Profile(); !alike(got, want) {
			t.Fatalf("cut at %d: %v, not %v", cut, got, want)
		}
	}
}

// R5: the same calls answer the same, whatever else is asked.
func TestSameAgain(t *testing.T) {
	r := rand.New(rand.NewSource(194))
	for range 500 {
		p, from, notes := sized(sizes(drawn(r, right))...), drawn(r, anySpot), someNotes(r, 20)
		a, b := New(p, from), New(p, from)
		noteAll(a, notes)
		for _, n := range notes {
			b.Note(n.fn, n.pc, n.args, n.callee)
			f := b.Profile()
			Hot(f, 1)
			Merge(f, from)
			Encode(f)
		}
		if f, g := a.Profile(), b.Profile(); !alike(f, g) || !alike(f, a.Profile()) {
			t.Fatal(f, g)
		}
	}
}
