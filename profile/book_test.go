package profile

import (
	"math"
	"math/rand"
	"slices"
	"sync"
	"testing"

	"portage/api"
)

// The chapter's first two examples.
func TestBookExamples(t *testing.T) {
	b := New(sized(2), api.Profile{})
	if f := b.Profile(); !alike(f, of(make([]api.Spot, 2))) {
		t.Error(f)
	}
	b.Note(0, 1, kinds(api.Int, api.Real), 0)
	b.Note(0, 1, kinds(api.Int), 3)
	b.Note(0, 2, nil, 0)
	if f := b.Profile(); !alike(f, of(spots(api.Spot{}, api.Spot{Count: 2, A: 12, B: 4, Callee: 3}))) {
		t.Error(f)
	}
}

// P18.2: a book has the program's sizes, and at the beginning what the profile says at its places, whatever numbers these are.
func TestNew(t *testing.T) {
	odd := api.Spot{Count: -7, A: 65535, B: 1024, Callee: -300}
	least := api.Spot{Count: math.MinInt64, Callee: math.MinInt}
	most := api.Spot{Count: math.MaxInt64, A: 1, B: 65535, Callee: math.MaxInt}
	from := of(spots(odd, least, most), nil, spots(most))
	for _, c := range []struct {
		p    api.Program
		want api.Profile
	}{
		{sized(), of()},
		{sized(0), of(nil)},
		{sized(0, 0, 0, 0), of(nil, nil, nil, nil)},
		{sized(1), of(spots(odd))},
		{sized(3), of(spots(odd, least, most))},
		{sized(4), of(spots(odd, least, most, api.Spot{}))},
		{sized(2, 1, 2, 1), of(spots(odd, least), spots(api.Spot{}), spots(most, api.Spot{}), spots(api.Spot{}))},
		{sized(0, 2, 0), of(nil, make([]api.Spot, 2), nil)},
	} {
		if f := New(c.p, from).Profile(); !alike(f, c.want) {
			t.Errorf("%v: %v, not %v", c.p, f, c.want)
		}
	}
}

// P18.2: nothing of a program is looked at but its sizes.
func TestNewLooksAtSizes(t *testing.T) {
	p := api.Program{
		Consts: []api.Const{{Kind: 77}},
		Funcs: []api.Function{
			{Name: "", Params: -4, Locals: math.MinInt, Code: []api.Instr{{Op: -1, A: math.MinInt64}, {Op: 9999}}, Handlers: []api.Handler{{From: 9, To: -9, Target: 1 << 40, Height: -1}}},
			{Name: "", Params: 1 << 40, Code: []api.Instr{{Op: api.OpJump, A: 77}}},
		},
	}
	b := New(p, of(nil, spots(api.Spot{Count: 1})))
	b.Note(0, 1, kinds(api.Chan), 1)
	b.Note(1, 0, nil, 0)
	if f := b.Profile(); !alike(f, of(spots(api.Spot{}, api.Spot{Count: 1, A: 512, Callee: 1}), spots(api.Spot{Count: 2}))) {
		t.Error(f)
	}
}

// P18.3: of every kind and number of operands, the upmost and the one beneath it are seen.
func TestNoteKinds(t *testing.T) {
	for _, a := range edges() {
		for _, b := range edges() {
			bit := func(k int) uint16 {
				if k < 0 || k > 9 {
					return 0
				}
				return 1 << k
			}
			for _, c := range []struct {
				args []api.Value
				want api.Spot
			}{
				{nil, api.Spot{Count: 1}},
				{kinds(a), api.Spot{Count: 1, A: bit(a)}},
				{kinds(b, a), api.Spot{Count: 1, A: bit(a), B: bit(b)}},
				{kinds(5, b, a), api.Spot{Count: 1, A: bit(a), B: bit(b)}},
				{kinds(5, 6, 7, 8, b, a), api.Spot{Count: 1, A: bit(a), B: bit(b)}},
			} {
				book := New(sized(1), api.Profile{})
				book.Note(0, 0, c.args, 0)
				if f := book.Profile(); !alike(f, of(spots(c.want))) {
					t.Fatalf("%v: %v, not %v", c.args, f, c.want)
				}
			}
		}
	}
}

// P18.3: each kind has its own bit, and bits are only ever added.
func TestNoteAddsBits(t *testing.T) {
	b := New(sized(1), of(spots(api.Spot{A: 1 << 15, B: 1 << 10})))
	var bits uint16
	for k := range 10 {
		b.Note(0, 0, kinds(9-k, k), 0)
		bits |= 1 << k
		want := api.Spot{Count: int64(k) + 1, A: 1<<15 | bits, B: 1<<10 | (1023 &^ (1<<(9-k) - 1))}
		if f := b.Profile(); !alike(f, of(spots(want))) {
			t.Fatalf("%d: %v, not %v", k, f, want)
		}
	}
}

// P18.3: a note of a place that the book has not is as if it had never come.
func TestNoteNowhere(t *testing.T) {
	from := of(spots(api.Spot{Count: 1}, api.Spot{Count: 2}, api.Spot{Count: 3}), spots(api.Spot{Count: 4}), nil, spots(api.Spot{Count: 5}))
	p := sized(2, 0, 1)
	b := New(p, from)
	want := b.Profile()
	for _, fn := range edges() {
		for _, pc := range edges() {
			if fn == 0 && (pc == 0 || pc == 1) || fn == 2 && pc == 0 {
				continue
			}
			b.Note(fn, pc, kinds(1, 2), 7)
			if f := b.Profile(); !alike(f, want) {
				t.Fatalf("%d %d: %v", fn, pc, f)
			}
		}
	}
}

// Words: all pairs of Callees, by notes behind one another; the chapter's among them.
func TestNoteCallees(t *testing.T) {
	for _, x := range [][3]int{{3, 3, 3}, {3, 0, 3}, {0, 3, 3}, {3, 4, -1}, {-1, 0, -1}, {0, -1, -1}, {-1, 3, -1}, {3, -1, -1}, {-1, -1, -1}, {0, 0, 0}} {
		b := New(sized(1), of(spots(api.Spot{Callee: x[0]})))
		b.Note(0, 0, nil, x[1])
		if got := At(b.Profile(), 0, 0).Callee; got != x[2] {
			t.Errorf("%d and %d together: %d", x[0], x[1], got)
		}
	}
	for _, x := range edges() {
		for _, y := range edges() {
			b := New(sized(1), api.Profile{})
			b.Note(0, 0, nil, x)
			b.Note(0, 0, nil, y)
			if got := At(b.Profile(), 0, 0).Callee; got != slowCallee(x, y) {
				t.Errorf("%d and %d together: %d", x, y, got)
			}
		}
	}
}

// P18.3: counts rise by one up to the greatest, from wherever they begin.
func TestNoteCounts(t *testing.T) {
	for _, x := range edges() {
		b := New(sized(1), of(spots(api.Spot{Count: int64(x)})))
		want := int64(x)
		for range 4 {
			b.Note(0, 0, nil, 0)
			want = slowCount(want, 1)
			if got := At(b.Profile(), 0, 0).Count; got != want {
				t.Errorf("from %d on: %d, not %d", x, got, want)
			}
		}
	}
}

// P18.2, P18.3: long rows of notes against the words.
func TestBookAgainstTheWords(t *testing.T) {
	r := rand.New(rand.NewSource(183))
	for range 4000 {
		p, from := sized(sizes(drawn(r, right))...), drawn(r, anySpot)
		b, m := New(p, from), newSlowBook(p, from)
		for k, n := range someNotes(r, 40) {
			b.Note(n.fn, n.pc, n.args, n.callee)
			m.note(n)
			if k%8 == 0 && !alike(b.Profile(), m.f) {
				t.Fatalf("%v: %v, not %v", n, b.Profile(), m.f)
			}
		}
		if f := b.Profile(); !alike(f, m.f) {
			t.Fatalf("%v, not %v", f, m.f)
		}
	}
}

// P18.2: two books, also over one profile, know nothing of one another; and telling changes nothing.
func TestBooksAreApart(t *testing.T) {
	p, from := sized(1, 1), of(spots(api.Spot{Count: 5, Callee: 1}))
	a, b := New(p, from), New(p, from)
	a.Note(0, 0, kinds(1), 2)
	b.Note(1, 0, kinds(2), 0)
	for range 2 {
		if f := a.Profile(); !alike(f, of(spots(api.Spot{Count: 6, A: 2, Callee: -1}), make([]api.Spot, 1))) {
			t.Error(f)
		}
		if f := b.Profile(); !alike(f, of(from.Funcs[0], spots(api.Spot{Count: 1, A: 4}))) {
			t.Error(f)
		}
	}
}

// Ways: counts are atomic: notes of several goroutines at the same time are all there, in the way of notes behind one another.
func TestNotesAtTheSameTime(t *testing.T) {
	r := rand.New(rand.NewSource(18))
	p, from := sized(3, 0, 1), of(spots(api.Spot{Count: math.MaxInt64 - 500, Callee: 2}, api.Spot{Count: -900}))
	b, m := New(p, from), newSlowBook(p, from)
	var parts [8][]note
	for k := range parts {
		for range 2000 {
			n := someNote(r)
			parts[k] = append(parts[k], n)
			m.note(n)
		}
	}
	var all sync.WaitGroup
	for _, l := range parts {
		all.Go(func() { noteAll(b, l) })
	}
	all.Wait()
	if f := b.Profile(); !alike(f, m.f) {
		t.Errorf("%v, not %v", f, m.f)
	}
}

// Ways: one spot that all goroutines add to loses nothing.
func TestOneSpotAtTheSameTime(t *testing.T) {
	const each, workers = 20000, 8
	b := New(sized(1), api.Profile{})
	var all sync.WaitGroup
	for k := range workers {
		all.Go(func() {
			for range each {
				b.Note(0, 0, kinds(k, k+1), 5)
			}
		})
	}
	all.Wait()
	if f := b.Profile(); !slices.Equal(f.Funcs[0], spots(api.Spot{Count: each * workers, A: 510, B: 255, Callee: 5})) {
		t.Error(f)
	}
}
