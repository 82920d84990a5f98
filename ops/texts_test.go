package ops

import (
	"math"
	"strings"
	"testing"

	"portage/api"
	"portage/heap"
	"portage/intern"
)

// P13.4: the texts of all values, right ones and others.
func TestText(t *testing.T) {
	w := rich(0).world(t)
	for _, c := range []struct {
		v    api.Value
		want string
	}{
		{api.Value{}, "nil"}, {named(api.Nil, 5), "nil"},
		{truth(0), "false"}, {truth(1), "true"}, {truth(2), "true"}, {truth(-1), "true"}, {truth(1 << 32), "true"},
		{whole(0), "0"}, {whole(-3), "-3"}, {whole(minInt), "-9223372036854775808"}, {whole(maxInt), "9223372036854775807"},
		{float(2), "2.0"}, {float(0.1), "0.1"}, {float(1e21), "1e+21"}, {float(math.Copysign(0, -1)), "-0.0"}, {float(math.Inf(-1)), "-inf"},
		{bits(oneNaN), "nan"}, {bits(0xfff8000000000001), "nan"},
		{text(0), ""}, {text(2), "ab"}, {text(8), "x\xff\x00y"}, {text(12), ""}, {text(-1), ""}, {text(minInt), ""}, {text(1 << 32), ""},
		{named(api.Func, 0), "func(main)"}, {named(api.Func, 2), "func(many)"}, {named(api.Func, 3), "func()"},
		{named(api.Func, 4), "func()"}, {named(api.Func, -1), "func()"}, {named(api.Func, minInt), "func()"}, {named(api.Func, 1<<32+1), "func()"},
		{named(api.Array, 0), "array(2)"}, {named(api.Array, 6), "array(0)"}, {named(api.Array, 1), "array()"}, {named(api.Array, 9), "array()"}, {named(api.Array, -1), "array()"},
		{named(api.Record, 1), "record(2)"}, {named(api.Record, 7), "record(0)"}, {named(api.Record, 0), "record()"},
		{named(api.Bound, 2), "bound(f)"}, {named(api.Bound, 5), "bound()"}, {named(api.Bound, 0), "bound()"}, {named(api.Bound, 9), "bound()"}, {named(api.Bound, minInt), "bound()"},
		{named(api.Chan, 3), "chan(1)"}, {named(api.Chan, 4), "chan(0)"}, {named(api.Chan, 0), "chan()"}, {named(api.Chan, maxInt), "chan()"},
		{named(10, 0), ""}, {named(-1, 0), ""}, {named(minInt, 0), ""}, {named(maxInt, 7), ""}, {named(1<<32, 0), ""},
	} {
		if got := Text(w, c.v); got != c.want {
			t.Errorf("Text(%v) = %q, not %q", c.v, got, c.want)
		}
	}
	m := rich(0)
	for _, v := range values() {
		if got := Text(w, v); got != m.textOf(v) {
			t.Errorf("Text(%v) = %q, not %q", v, got, m.textOf(v))
		}
	}
	if !m.holds(w) {
		t.Error("Text changed the world")
	}
}

// P13.4: the text goes by what lies there now.
func TestTextOfWhatChanges(t *testing.T) {
	w := bare(99, "a")
	a, _, _ := Apply(w, op(api.OpArray), nil)
	r, _, _ := Apply(w, op(api.OpRecord), nil)
	c, _, _ := Apply(w, opA(api.OpChan, 3), nil)
	for n, want := range []string{"array(0) record(0) chan(0)", "array(1) record(1) chan(1)", "array(2) record(2) chan(2)"} {
		if got := Text(w, a) + " " + Text(w, r) + " " + Text(w, c); got != want {
			t.Errorf("%s, not %s", got, want)
		}
		Apply(w, op(api.OpPush), row(a, a))
		Apply(w, opA(api.OpSetf, int64(2*n)), row(r, a))
		w.Heap.Send(c, a)
	}
}

// P13.5.
func TestTruth(t *testing.T) {
	for _, v := range values() {
		if Truth(v) != modelTruth(v) {
			t.Errorf("Truth(%v) = %v", v, Truth(v))
		}
	}
	for _, v := range row(api.Value{}, named(api.Nil, 5), truth(0)) {
		if Truth(v) {
			t.Errorf("Truth(%v)", v)
		}
	}
	for _, v := range row(truth(1), truth(-1), truth(2), truth(1<<32), whole(0), float(0), bits(oneNaN), text(0), named(-1, 0), named(10, 0)) {
		if !Truth(v) {
			t.Errorf("not Truth(%v)", v)
		}
	}
}

// P13.5.
func TestNames(t *testing.T) {
	for k, name := range strings.Split(" nil bool int real text func array record bound chan ", " ") {
		if KindName(k-1) != name {
			t.Errorf("KindName(%d) = %q", k-1, KindName(k-1))
		}
	}
	for k, name := range strings.Split("  type divide index key arity deep closed range form fibers  ", " ") {
		if TrapName(k-1) != name {
			t.Errorf("TrapName(%d) = %q", k-1, TrapName(k-1))
		}
	}
	for _, n := range []int{minInt, -2, 12, 100, 1 << 32, maxInt} {
		if KindName(n) != "" || TrapName(n) != "" {
			t.Errorf("a name of %d", n)
		}
	}
}

// A text that the world has already costs as much as a new one, and keeps its number.
func TestTextsThatAreThere(t *testing.T) {
	for _, c := range []struct {
		i    api.Instr
		args []api.Value
		want int
		cost int
	}{
		{op(api.OpToText), row(text(3)), 3, 3},
		{op(api.OpToText), row(whole(12)), 3, 3},
		{op(api.OpToText), row(named(api.Array, 0)), 10, 9},
		{op(api.OpToText), row(text(99)), 0, 1},
		{op(api.OpKind), row(named(77, 0)), 0, 1},
		{op(api.OpKind), row(text(99)), 12, 5},
		{op(api.OpCat), row(text(0), text(0)), 0, 1},
		{op(api.OpCat), row(text(11), text(0)), 11, 4097},
		{op(api.OpCat), row(text(2), text(2)), 12, 5},
		{op(api.OpCut), row(text(2), whole(0), whole(1)), 1, 2},
		{op(api.OpCut), row(text(2), whole(2), whole(2)), 0, 1},
		{op(api.OpCut), row(text(0), whole(0), whole(0)), 0, 1},
		{op(api.OpCut), row(text(8), whole(1), whole(3)), 12, 3},
	} {
		w := rich(c.cost).world(t)
		if got := told(Apply(w, c.i, c.args)); got != told(text(c.want), 0, true) || w.Heap.Spent() != 100+c.cost {
			t.Errorf("%v of %v: %s, %d spent", c.i, c.args, got, w.Heap.Spent()-100)
		}
		w = rich(c.cost - 1).world(t)
		if got := told(Apply(w, c.i, c.args)); got != told(api.Value{}, 0, false) || w.Heap.Spent() != 100 || w.Texts.Len() != 12 {
			t.Errorf("%v of %v without room: %s, %d spent, %d texts", c.i, c.args, got, w.Heap.Spent()-100, w.Texts.Len())
		}
	}
}

// Only cat asks how long a text is; a world may hold longer ones than it makes.
func TestLongTexts(t *testing.T) {
	long := strings.Repeat("y", 5000)
	m := &model{budget: 1 << 20, texts: []string{long, "", long[:4095], "b", long[:4096]}}
	w := m.world(t)
	for _, i := range []api.Instr{op(api.OpCat), op(api.OpLt), op(api.OpLe), op(api.OpEq)} {
		for a := range 5 {
			for b := range 5 {
				both(t, w, m, i, row(text(a), text(b)))
			}
		}
	}
	for _, to := range []int64{0, 4095, 4096, 4097, 5000, 5001} {
		both(t, w, m, op(api.OpCut), row(text(0), whole(0), whole(to)))
		both(t, w, m, op(api.OpGet), row(text(0), whole(to)))
	}
	for _, n := range []int{api.OpToText, api.OpLen, api.OpToInt, api.OpToReal, api.OpKind} {
		both(t, w, m, op(n), row(text(0)))
	}
}

// Numbers as texts, read by the lower layer: all that has an error there is a trap here.
func TestReadNumbers(t *testing.T) {
	texts := []string{"", "0", "-0", "+7", "007", " 1", "1 ", "0x1", "1e3", ".5", "5.", ".", "inf", "-inf", "+inf", "INF", "nan", "-nan", "1e999", "-1e-999", "9223372036854775807", "9223372036854775808", "-9223372036854775808", "-9223372036854775809", "1e+12345", "\xff", strings.Repeat("0", 800), strings.Repeat("0", 801), "true", "nil"}
	m := &model{texts: texts}
	w := m.world(t)
	for k := range texts {
		both(t, w, m, op(api.OpToInt), row(text(k)))
		both(t, w, m, op(api.OpToReal), row(text(k)))
	}
	for k, c := range []struct {
		s          string
		whole, bit string
	}{
		{"007", told(whole(7), 0, true), told(float(7), 0, true)},
		{"1e3", told(api.Value{}, api.TrapForm, true), told(float(1000), 0, true)},
		{"nan", told(api.Value{}, api.TrapForm, true), told(bits(oneNaN), 0, true)},
		{"9223372036854775808", told(api.Value{}, api.TrapForm, true), told(float(1<<63), 0, true)},
		{"x", told(api.Value{}, api.TrapForm, true), told(api.Value{}, api.TrapForm, true)},
		{strings.Repeat("0", 801), told(whole(0), 0, true), told(api.Value{}, api.TrapForm, true)},
	} {
		x, _ := intern.From(c.s)
		w := &World{Heap: heap.New(0, 0), Texts: x}
		if got := told(Apply(w, op(api.OpToInt), row(text(0)))); got != c.whole {
			t.Errorf("text %d as a whole number: %s", k, got)
		}
		if got := told(Apply(w, op(api.OpToReal), row(text(0)))); got != c.bit {
			t.Errorf("text %d as a real: %s", k, got)
		}
	}
}
