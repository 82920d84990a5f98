package states

import (
	"math"
	"math/rand"
	"slices"
	"strconv"
	"strings"
	"testing"

	"portage/api"
)

// tried holds Check to what is said of a state, and the model too.
func tried(t *testing.T, p api.Program, f api.Facts, s api.State, want api.Errno, what string) {
	t.Helper()
	if got := Check(p, f, s); got != want {
		t.Errorf("%s: Check is %v, not %v", what, got, want)
	}
	if isState(p, f, s) != (want == api.OK) {
		t.Errorf("%s: the model says otherwise", what)
	}
}

// verdict is what Check says where something holds.
func verdict(holds bool) api.Errno {
	if holds {
		return api.OK
	}
	return api.ErrState
}

// P15.1: the chapter's examples.
func TestCheckExamples(t *testing.T) {
	p, f := example(t)
	if !slices.Equal(f.Heights[0], []int{0, 1, 0}) {
		t.Fatal(f.Heights)
	}
	tried(t, p, f, at(2, val(api.Nil, 0)), api.OK, "nil at 2")
	tried(t, p, f, at(1, val(api.Nil, 0)), api.ErrState, "one slot of two")
	tried(t, p, f, at(2, txt(0)), api.ErrState, "there is no text")
	tried(t, p, f, api.State{}, api.ErrState, "no fibers at all")
}

// P15.1: texts up to the limit, no two alike, wherever they stand and whatever is led to.
func TestCheckTexts(t *testing.T) {
	p, f := example(t)
	for _, n := range []int{0, 1, api.MaxText - 1, api.MaxText, api.MaxText + 1, 2 * api.MaxText} {
		for k := range 3 {
			s := at(2, val(api.Nil, 0))
			s.Texts = []string{"a", "b", "c"}
			s.Texts[k] = strings.Repeat("\xff", n)
			tried(t, p, f, s, verdict(n <= api.MaxText), "a text of "+strconv.Itoa(n))
		}
	}
	for i := range 4 {
		for k := range 4 {
			s := at(2, val(api.Nil, 0))
			s.Texts = []string{"", "x", "y", "x\x00"}
			s.Texts[i] = s.Texts[k]
			tried(t, p, f, s, verdict(i == k), "text "+strconv.Itoa(i)+" as "+strconv.Itoa(k))
		}
	}
}

// kinds are objects, one of each kind, and what each of them is named by.
func kinds() []api.Object {
	return []api.Object{{Kind: api.Array}, {Kind: api.Record}, {Kind: api.Bound}, {Kind: api.Chan, Cap: 1}}
}

// P15.1: every kind of value with numbers about all edges, as a slot, in an object, and in a frame that waits.
func TestCheckValues(t *testing.T) {
	p, f := yard(t)
	var numbers []int64
	for _, n := range edges() {
		numbers = append(numbers, int64(n))
	}
	numbers = append(numbers, 4, 5, 0x7FF0000000000000, 0x7FF0000000000001, 0x7FF7FFFFFFFFFFFF, 0x7FF8000000000000, 0x7FF8000000000001, -0x0010000000000000, -0x000FFFFFFFFFFFFF, -0x0008000000000000)
	for kind := -2; kind < 13; kind++ {
		for _, n := range numbers {
			v := val(kind, n)
			what := strconv.Itoa(kind) + " " + strconv.FormatInt(n, 10)
			s := api.State{Texts: []string{"a", "b"}, Objects: kinds(), Fibers: []api.Fiber{fiber(frame(yardMain, 0, nils(2)...))}}
			want := verdict(rightValue(p, s, v))
			s.Fibers[0].Frames[0].Slots[1] = v
			tried(t, p, f, s, want, "slot "+what)
			s.Fibers[0].Frames[0].Slots[1] = val(api.Nil, 0)
			for _, o := range []api.Object{array(val(api.Nil, 0), v), {Kind: api.Record, Keys: []int64{1}, Items: vals(v)}, {Kind: api.Bound, Fn: yardSum, Items: vals(v)}, {Kind: api.Chan, Cap: 2, Items: vals(v, v)}} {
				s.Objects = append(kinds(), o)
				tried(t, p, f, s, verdict(rightValue(p, s, v)), "item "+what)
			}
			s.Objects = kinds()
			s.Fibers = append(s.Fibers, fiber(frame(yardMain, mainCall, vals(v, val(api.Nil, 0))...), frame(yardBare, 0)))
			tried(t, p, f, s, want, "waiting "+what)
		}
	}
}

// holding is a state in which this object lies among others, and nothing leads to it.
func holding(o api.Object) api.State {
	return api.State{Texts: []string{"a", "b"}, Objects: append(kinds(), o), Fibers: []api.Fiber{fiber(frame(yardBare, 0))}}
}

// P15.1, P6.9: how many items each kind of object has.
func TestCheckItems(t *testing.T) {
	p, f := yard(t)
	for _, n := range []int{0, 1, 2, 3, 4, 63, 64, 65, 255, 256, 257, 4095, 4096, 4097, 9000} {
		what := strconv.Itoa(n) + " items of "
		tried(t, p, f, holding(array(nils(n)...)), verdict(n <= api.MaxItems), what+"an array")
		for fn, want := range []int{0, 2, 1, 0} {
			tried(t, p, f, holding(api.Object{Kind: api.Bound, Fn: fn, Items: nils(n)}), verdict(n <= want), what+"a bound "+p.Funcs[fn].Name)
		}
		for _, room := range append(edges(), 62, 64) {
			tried(t, p, f, holding(api.Object{Kind: api.Chan, Cap: room, Items: nils(n)}), verdict(1 <= room && room <= api.MaxCap && n <= room), what+"a channel of "+strconv.Itoa(room))
		}
	}
}

// P15.1, P6.9: fields of records: as many as there may be, keys that name texts, no two alike, a value each.
func TestCheckRecords(t *testing.T) {
	p, f := yard(t)
	for _, n := range []int{0, 1, 255, 256, 257} {
		s := holding(api.Object{Kind: api.Record, Items: nils(n)})
		s.Texts = nil
		for k := range 300 {
			s.Texts = append(s.Texts, strconv.Itoa(k))
		}
		o := &s.Objects[4]
		for k := range n {
			o.Keys = append(o.Keys, int64(299-k))
		}
		tried(t, p, f, s, verdict(n <= api.MaxFields), strconv.Itoa(n)+" fields")
		o.Items = nils(n + 1)
		tried(t, p, f, s, api.ErrState, "an item more")
		if n > 0 {
			o.Items = nils(n - 1)
			tried(t, p, f, s, api.ErrState, "an item fewer")
		}
	}
	for _, key := range edges() {
		for _, other := range []int64{0, 1} {
			o := api.Object{Kind: api.Record, Keys: []int64{other, int64(key)}, Items: nils(2)}
			tried(t, p, f, holding(o), verdict((key == 0 || key == 1) && key != int(other)), "key "+strconv.Itoa(key))
		}
	}
}

// P15.1, P6.9: what an object of a kind doesn't have is zero, and other kinds are none.
func TestCheckFields(t *testing.T) {
	p, f := yard(t)
	for kind := -2; kind < 13; kind++ {
		for bits := range 16 {
			o := api.Object{Kind: kind, Shut: bits&1 > 0}
			if bits&2 > 0 {
				o.Cap = 1
			}
			if bits&4 > 0 {
				o.Fn = 1
			}
			if bits&8 > 0 {
				o.Keys = []int64{0}
			}
			want := kind == api.Array && bits == 0 || kind == api.Record && bits == 0 || kind == api.Bound && bits&^4 == 0 || kind == api.Chan && bits&^1 == 2
			tried(t, p, f, holding(o), verdict(want), strconv.Itoa(kind)+" with "+strconv.Itoa(bits))
			o.Items = nils(1)
			want = kind == api.Array && bits == 0 || kind == api.Record && bits == 8 || kind == api.Bound && bits == 4 || kind == api.Chan && bits&^1 == 2
			tried(t, p, f, holding(o), verdict(want), strconv.Itoa(kind)+" of one with "+strconv.Itoa(bits))
		}
	}
	for _, fn := range edges() {
		tried(t, p, f, holding(api.Object{Kind: api.Bound, Fn: fn}), verdict(0 <= fn && fn <= 3), "bound "+strconv.Itoa(fn))
	}
}

// P15.1: how many fibers there are, and which of them may have ended.
func TestCheckFibers(t *testing.T) {
	p, f := yard(t)
	runs := fiber(frame(yardBare, 0))
	for _, n := range []int{0, 1, 2, 31, 32, 33, 100} {
		s := api.State{Fibers: slices.Repeat([]api.Fiber{runs}, n)}
		tried(t, p, f, s, verdict(1 <= n && n <= api.MaxFibers), strconv.Itoa(n)+" fibers")
		if n > 1 {
			s.Fibers = append(s.Fibers[:1], make([]api.Fiber, n-1)...)
			tried(t, p, f, s, verdict(n <= api.MaxFibers), strconv.Itoa(n)+" fibers that have ended")
		}
	}
	for _, current := range edges() {
		s := api.State{Fibers: []api.Fiber{runs, {}, runs}, Current: current}
		tried(t, p, f, s, verdict(current == 0 || current == 2), "current "+strconv.Itoa(current))
		s.Fibers[0] = api.Fiber{}
		tried(t, p, f, s, api.ErrState, "fiber 0 has ended")
	}
}

// P15.1: the counts from 0 to their limits.
func TestCheckCounts(t *testing.T) {
	p, f := example(t)
	for k, most := range []int{api.MaxFuel, api.MaxBudget, api.MaxInput} {
		for _, n := range append(edges(), 999, most-1, most, most+1) {
			s := at(2, val(api.Nil, 0))
			*[]*int{&s.Steps, &s.Spent, &s.Read}[k] = n
			tried(t, p, f, s, verdict(0 <= n && n <= most), "count "+strconv.Itoa(k)+" of "+strconv.Itoa(n))
		}
	}
}

// P15.1: every place of every function, with every number of slots, as a last frame and as one that waits.
func TestCheckSlots(t *testing.T) {
	p, f := yard(t)
	for fn := -1; fn <= len(p.Funcs); fn++ {
		for pc := -1; pc < 17; pc++ {
			for n := range 9 {
				fr := frame(fn, pc, nils(n)...)
				s := api.State{Fibers: []api.Fiber{fiber(frame(yardBare, 0)), fiber(fr)}}
				is := 0 <= fn && fn < len(p.Funcs) && 0 <= pc && pc < len(p.Funcs[fn].Code)
				what := strconv.Itoa(fn) + " " + strconv.Itoa(pc) + " with " + strconv.Itoa(n)
				tried(t, p, f, s, verdict(is && n == p.Funcs[fn].Locals+f.Heights[fn][pc]), what)
				is = is && p.Funcs[fn].Code[pc].Op == api.OpCall && n == p.Funcs[fn].Locals+f.Heights[fn][pc]-1-int(p.Funcs[fn].Code[pc].A)
				s.Fibers[1] = fiber(fr, frame(yardBare, 0))
				tried(t, p, f, s, verdict(is), what+", waiting outermost")
				s.Fibers[1] = fiber(frame(yardSum, sumCall, nils(5)...), fr, frame(yardBare, 0))
				tried(t, p, f, s, verdict(is), what+", waiting")
			}
		}
	}
	for _, n := range edges() {
		s := api.State{Fibers: []api.Fiber{fiber(frame(n, 0))}}
		tried(t, p, f, s, verdict(n == yardBare), "function "+strconv.Itoa(n))
		s = api.State{Fibers: []api.Fiber{fiber(frame(yardBare, n))}}
		tried(t, p, f, s, verdict(n == 0), "place "+strconv.Itoa(n))
	}
}

// P15.1: how many frames a fiber has.
func TestCheckFrames(t *testing.T) {
	p, f := yard(t)
	waiting := frame(yardBare, bareCall)
	for _, n := range []int{0, 1, 2, 98, 99, 100, 101, 500} {
		l := append(slices.Repeat([]api.Frame{waiting}, n), frame(yardBare, 0))
		s := api.State{Fibers: []api.Fiber{{Frames: l}}}
		tried(t, p, f, s, verdict(n+1 <= api.MaxFrames), strconv.Itoa(n+1)+" frames")
		s.Fibers = []api.Fiber{fiber(frame(yardBare, 0)), {Frames: l}}
		tried(t, p, f, s, verdict(n+1 <= api.MaxFrames), strconv.Itoa(n+1)+" frames of another fiber")
	}
}

// P15.1: the current fiber must be able to run, no other one.
func TestCheckBlocked(t *testing.T) {
	p, f := yard(t)
	for _, o := range []api.Object{{Kind: api.Chan, Cap: 2}, {Kind: api.Chan, Cap: 2, Items: nils(1)}, {Kind: api.Chan, Cap: 2, Items: nils(2)}, {Kind: api.Array}} {
		for _, shut := range []bool{false, o.Kind == api.Chan} {
			o.Shut = shut
			v := val(o.Kind, 0)
			sends := fiber(frame(yardMain, mainSend, val(api.Nil, 0), val(api.Nil, 0), v, val(api.Nil, 0)))
			takes := fiber(frame(yardTake, takeRecv, val(api.Nil, 0), v))
			other := fiber(frame(yardBare, 0))
			open := o.Kind == api.Chan && !shut
			s := api.State{Objects: []api.Object{o}, Fibers: []api.Fiber{sends, takes, other}}
			for k, blocked := range []bool{open && len(o.Items) == 2, open && len(o.Items) == 0, false} {
				s.Current = k
				tried(t, p, f, s, verdict(!blocked), "fiber "+strconv.Itoa(k)+" of a channel with "+strconv.Itoa(len(o.Items)))
			}
		}
	}
}

// P15.1: states that are right by their making, and states in which a thing or two has changed.
func TestCheckDrawn(t *testing.T) {
	p, f := yard(t)
	r := rand.New(rand.NewSource(15))
	taken, refused := 0, 0
	for range 20000 {
		s := made(r, p, f)
		tried(t, p, f, s, api.OK, "made")
		s = copied(s)
		for range 1 + r.Intn(2) {
			spoil(r, &s)
			is := isState(p, f, s)
			if got := Check(p, f, s); got != verdict(is) {
				t.Fatalf("%+v: %v", s, got)
			}
			if is {
				taken++
			} else {
				refused++
			}
		}
	}
	if taken < 1000 || refused < 1000 {
		t.Error(taken, refused)
	}
}

// strange are a program and facts that need not be right, nor go together.
func strange(r *rand.Rand, p api.Program, f api.Facts) (api.Program, api.Facts) {
	p.Funcs, f.Heights = slices.Clone(p.Funcs), slices.Clone(f.Heights)
	for range 1 + r.Intn(3) {
		if len(p.Funcs) == 0 || len(f.Heights) == 0 {
			break
		}
		n := edges()[r.Intn(len(edges()))]
		fn := &p.Funcs[r.Intn(len(p.Funcs))]
		l := &f.Heights[r.Intn(len(f.Heights))]
		switch r.Intn(9) {
		case 0:
			fn.Params = n
		case 1:
			fn.Locals = n
		case 2:
			fn.Code = slices.Clone(fn.Code)
			fn.Code[r.Intn(len(fn.Code))] = api.Instr{Op: r.Intn(80) - 5, A: int64(n)}
		case 3:
			fn.Code = append(slices.Clone(fn.Code), api.Instr{Op: api.OpCall, A: int64(n)})
		case 4:
			*l = slices.Repeat([]int{n}, len(*l))
		case 5:
			*l = (*l)[:r.Intn(len(*l)+1)]
		case 6:
			f.Heights = f.Heights[:r.Intn(len(f.Heights)+1)]
		case 7:
			p.Funcs = p.Funcs[:r.Intn(len(p.Funcs)+1)]
		case 8:
			f = api.Facts{Most: []int{n}}
		}
	}
	return p, f
}

// P15.1, R1: with any program and any facts Check answers one of the two; the others answer as ever.
func TestStrangePrograms(t *testing.T) {
	p, f := yard(t)
	r := rand.New(rand.NewSource(151))
	for range 20000 {
		q, g := strange(r, p, f)
		s := drawn(r, p, f)
		if err := Check(q, g, s); err != api.OK && err != api.ErrState {
			t.Fatal(err)
		}
		if Safe(q, s) != safe(q, s) {
			t.Fatalf("%+v %+v: Safe is %v", q, s, Safe(q, s))
		}
		for k := -1; k <= len(s.Fibers); k++ {
			if Blocked(q, s, k) != waits(q, s, k) {
				t.Fatalf("%+v %+v: Blocked of %d is %v", q, s, k, Blocked(q, s, k))
			}
		}
	}
	for _, n := range []int{math.MinInt, math.MaxInt} {
		q := api.Program{Funcs: []api.Function{{Params: n, Locals: n, Code: []api.Instr{{Op: api.OpCall, A: int64(n)}}}}}
		for _, h := range []int{math.MinInt, -1, 0, 1, math.MaxInt} {
			s := api.State{Objects: []api.Object{{Kind: api.Bound}}, Fibers: []api.Fiber{fiber(frame(0, 0), frame(0, 0))}}
			if err := Check(q, api.Facts{Heights: [][]int{{h}}}, s); err != api.OK && err != api.ErrState {
				t.Error(err)
			}
		}
	}
	for _, s := range []api.State{{}, at(0), at(0, val(api.Nil, 0)), {Fibers: make([]api.Fiber, 1)}} {
		if Check(api.Program{}, api.Facts{}, s) != api.ErrState || Safe(api.Program{}, s) {
			t.Errorf("%+v is a state of no program", s)
		}
	}
}
