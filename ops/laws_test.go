package ops

import (
	"math/rand"
	"slices"
	"strings"
	"testing"

	"portage/api"
)

// do is what an operation gives, which must be done.
func do(t *testing.T, w *World, n int, args ...api.Value) api.Value {
	t.Helper()
	v, trap, room := Apply(w, op(n), args)
	if trap != 0 || !room {
		t.Fatalf("%d of %v: trap %d, %v", n, args, trap, room)
	}
	return v
}

// P13.6: whole numbers are a ring; what div leaves is rem.
func TestRing(t *testing.T) {
	w, r := nowhere(), rand.New(rand.NewSource(6))
	do := func(n int, args ...api.Value) api.Value { t.Helper(); return do(t, w, n, args...) }
	law := func(is bool, l ...api.Value) {
		t.Helper()
		if !is {
			t.Fatal("not so of", l)
		}
	}
	hold := func(a, b, c api.Value) {
		law(do(api.OpAdd, do(api.OpSub, a, b), b) == a, a, b)
		law(do(api.OpMul, a, do(api.OpAdd, b, c)) == do(api.OpAdd, do(api.OpMul, a, b), do(api.OpMul, a, c)), a, b, c)
		law(do(api.OpAdd, a, do(api.OpNeg, a)) == whole(0), a)
		law(do(api.OpNot, a) == do(api.OpSub, do(api.OpNeg, a), whole(1)), a)
		if b.N == 0 {
			return
		}
		left := do(api.OpRem, a, b)
		law(do(api.OpAdd, do(api.OpMul, do(api.OpDiv, a, b), b), left) == a, a, b)
		if b.N != minInt {
			law(max(left.N, -left.N) < max(b.N, -b.N), a, b)
		}
		law(left.N == 0 || (left.N < 0) == (a.N < 0), a, b)
	}
	for _, a := range edges() {
		for _, b := range edges() {
			hold(whole(a), whole(b), whole(scattered(r)))
		}
	}
	for range 20000 {
		hold(whole(scattered(r)), whole(scattered(r)), whole(scattered(r)))
	}
}

// P13.7: bits, shifts and widths.
func TestBits(t *testing.T) {
	w := nowhere()
	do := func(n int, args ...api.Value) api.Value { t.Helper(); return do(t, w, n, args...) }
	for _, x := range edges() {
		a := whole(x)
		for _, y := range edges() {
			b := whole(y)
			if do(api.OpBic, a, b) != do(api.OpAnd, a, do(api.OpNot, b)) {
				t.Fatal("bic", a, b)
			}
			if do(api.OpXor, a, b) != do(api.OpBic, do(api.OpOr, a, b), do(api.OpAnd, a, b)) {
				t.Fatal("xor", a, b)
			}
		}
		for k := range int64(64) {
			n := whole(k)
			if do(api.OpShl, a, n) != do(api.OpMul, a, do(api.OpShl, whole(1), n)) {
				t.Fatal("shl", a, n)
			}
			lost := do(api.OpSub, do(api.OpShl, do(api.OpShr, a, n), n), a)
			if lost.N > 0 || lost.N < -(1<<k-1) {
				t.Fatal("shr", a, n)
			}
		}
		for _, width := range []int64{8, 16, 32} {
			once, _, _ := Apply(w, opA(api.OpExt, width), row(a))
			twice, _, _ := Apply(w, opA(api.OpExt, width), row(once))
			if once != twice || once != do(api.OpShr, do(api.OpShl, a, whole(64-width)), whole(64-width)) {
				t.Fatal("ext", width, a)
			}
		}
	}
}

// P13.8: of two whole numbers, and of two texts, just one of three holds.
func TestOrder(t *testing.T) {
	var lists [2][]api.Value
	for _, n := range edges() {
		lists[0] = append(lists[0], whole(n))
	}
	texts := []string{"", "\x00", "\x00\x00", "a", "a\x00", "ab", "b", "\x7f", "\x80", "\xff", "\xff\xff", "aaaa", "aaab", "é", "z"}
	for k := range texts {
		lists[1] = append(lists[1], text(k))
	}
	w := bare(0, texts...)
	is := func(n int, a, b api.Value) bool { t.Helper(); return do(t, w, n, a, b) == truth(1) }
	for _, l := range lists {
		for _, a := range l {
			for _, b := range l {
				below, same, above := is(api.OpLt, a, b), is(api.OpEq, a, b), is(api.OpLt, b, a)
				if below && same || same && above || below && above || !below && !same && !above || same != (a == b) {
					t.Error("of", a, b, "hold", below, same, above)
				}
				if is(api.OpLe, a, b) == above {
					t.Error("le", a, b)
				}
			}
		}
	}
	for a, s := range texts {
		for b, u := range texts {
			if is(api.OpLt, text(a), text(b)) != (strings.Compare(s, u) < 0) {
				t.Errorf("lt of %q and %q", s, u)
			}
		}
	}
	for _, a := range append(values(), numbers()...) {
		nan := a.Kind == api.Real && uint64(a.N)<<1 > 0x7ff<<53
		if is(api.OpEq, a, a) == nan {
			t.Error("eq of itself:", a)
		}
		for _, b := range values() {
			if is(api.OpEq, a, b) == is(api.OpNe, a, b) {
				t.Error("ne", a, b)
			}
		}
	}
}

// P13.9: what is pure, and what Whole gives, is the same in every world, and changes none.
func TestPure(t *testing.T) {
	models := []*model{rich(0), rich(99), rich(-5), {}, {texts: []string{"q", "12"}, budget: 7}}
	for n := range api.Ops {
		for k := 1; k <= 2; k++ {
			for _, args := range rows(few(), k) {
				first := ""
				_, all := Whole(n, args[0].Kind, args)
				if !all && (!Pure(n) || k != map[bool]int{true: 1, false: 2}[n == api.OpTest || n == api.OpFlip]) {
					continue
				}
				for _, m := range models {
					w := m.world(t)
					got := told(Apply(w, op(n), args))
					if first == "" {
						first = got
					}
					if got != first || !strings.HasSuffix(got, "trap 0, true") || !m.holds(w) {
						t.Fatalf("%d of %v: %s, and elsewhere %s", n, args, got, first)
					}
				}
			}
		}
	}
}

// P13.10: what is spent is what the document's table says, and nothing where it says nothing.
func TestCosts(t *testing.T) {
	for _, c := range []struct {
		i    api.Instr
		args []api.Value
		cost int
	}{
		{op(api.OpArray), nil, 2},
		{opA(api.OpArray, 3), make([]api.Value, 3), 5},
		{op(api.OpRecord), nil, 2},
		{opA(api.OpChan, 1), nil, 3},
		{opA(api.OpChan, 64), nil, 66},
		{op(api.OpBind), row(named(api.Func, 2)), 2},
		{opA(api.OpBind, 2), row(named(api.Func, 2), whole(1), whole(2)), 4},
		{opA(api.OpBind, 1), row(named(api.Bound, 2), whole(1)), 4},
		{op(api.OpPush), row(named(api.Array, 0), whole(1)), 1},
		{opA(api.OpSetf, 0), row(named(api.Record, 1), whole(1)), 0},
		{opA(api.OpSetf, 2), row(named(api.Record, 1), whole(1)), 2},
		{opA(api.OpSetf, 0), row(named(api.Record, 7), whole(1)), 2},
		{op(api.OpKeys), row(named(api.Record, 1)), 4},
		{op(api.OpKeys), row(named(api.Record, 7)), 2},
		{op(api.OpToText), row(api.Value{}), 4},
		{op(api.OpToText), row(text(11)), 4097},
		{op(api.OpKind), row(api.Value{}), 4},
		{op(api.OpCat), row(text(1), text(2)), 4},
		{op(api.OpCut), row(text(11), whole(1), whole(11)), 11},
		{op(api.OpGet), row(named(api.Array, 0), whole(1)), 0},
		{op(api.OpGet), row(text(2), whole(1)), 0},
		{op(api.OpSet), row(named(api.Array, 0), whole(1), text(1)), 0},
		{op(api.OpLen), row(text(11)), 0},
		{op(api.OpLen), row(named(api.Chan, 3)), 0},
		{opA(api.OpGetf, 0), row(named(api.Record, 1)), 0},
		{opA(api.OpHasf, 2), row(named(api.Record, 1)), 0},
		{opA(api.OpDelf, 0), row(named(api.Record, 1)), 0},
		{op(api.OpShut), row(named(api.Chan, 3)), 0},
		{op(api.OpToInt), row(text(3)), 0},
		{op(api.OpToReal), row(text(5)), 0},
		{op(api.OpLt), row(text(3), text(5)), 0},
		{op(api.OpAdd), row(whole(3), whole(5)), 0},
	} {
		for _, left := range []int{c.cost, c.cost + 1, c.cost - 1, 0} {
			m := rich(left)
			w := m.world(t)
			v, trap, room := Apply(w, c.i, c.args)
			if done := left >= c.cost || c.cost == 0; trap != 0 || room != done || !done && (v != (api.Value{}) || !m.holds(w)) || done && w.Heap.Spent() != 100+c.cost {
				t.Errorf("%v of %v, with room for %d: %s, %d spent", c.i, c.args, left, told(v, trap, room), w.Heap.Spent()-100)
			}
		}
	}
}

// P13.11: a text that is cut in two and put together again is the very text.
func TestCutAndCat(t *testing.T) {
	for _, s := range []string{"", "a", "ab", "aaa", "x\xff\x00y", strings.Repeat("long", 1024)} {
		w := bare(1<<20, "ahead", s)
		for k := 0; k <= len(s); k += 1 + len(s)/40 {
			n := whole(int64(len(s)))
			a := do(t, w, api.OpCut, text(1), whole(0), whole(int64(k)))
			b := do(t, w, api.OpCut, text(1), whole(int64(k)), n)
			if v := do(t, w, api.OpCat, a, b); v != text(1) {
				t.Fatalf("%q at %d: %v", s, k, v)
			}
			if Text(w, a) != s[:k] || Text(w, b) != s[k:] {
				t.Fatalf("%q at %d: %q %q", s, k, Text(w, a), Text(w, b))
			}
		}
	}
}

// P13.11: values that are bound in two turns are bound as all at once.
func TestBindTwice(t *testing.T) {
	var all []api.Value
	for n := range int64(63) {
		all = append(all, whole(n))
	}
	for _, f := range row(named(api.Func, 0), named(api.Func, 1), named(api.Func, 2)) {
		for n := 0; n <= 63; n++ {
			for k := 0; k <= n; k++ {
				w := bare(9999)
				once, trap, _ := Apply(w, opA(api.OpBind, int64(n)), append(row(f), all[:n]...))
				part, first, _ := Apply(w, opA(api.OpBind, int64(k)), append(row(f), all[:k]...))
				if first != 0 {
					if first != api.TrapArity || trap != api.TrapArity {
						t.Fatal(f, n, k, trap, first)
					}
					continue
				}
				twice, second, _ := Apply(w, opA(api.OpBind, int64(n-k)), append(row(part), all[k:n]...))
				if second != trap || trap != 0 && trap != api.TrapArity {
					t.Fatal(f, n, k, trap, second)
				}
				if trap != 0 {
					continue
				}
				p, _ := w.Heap.Object(int(once.N))
				q, _ := w.Heap.Object(int(twice.N))
				if once.Kind != api.Bound || twice.Kind != api.Bound || p.Fn != q.Fn || p.Fn != int(f.N) || !slices.Equal(p.Items, q.Items) || !slices.Equal(p.Items, all[:n]) {
					t.Fatal(f, n, k, p, q)
				}
			}
		}
	}
}
