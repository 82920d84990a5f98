package deopt

import (
	"math/rand"
	"reflect"
	"runtime"
	"slices"
	"testing"

	"portage/api"
)

// asked is what one asks the three calls with.
type asked struct {
	C      api.Code
	F      api.Frame
	Shapes []api.Shape
	Regs   []api.Value
	Consts []api.Value
}

// answered is what they say; whether it is there is told by OK.
type answered struct {
	Frames    []api.Frame
	Registers []api.Value
	Values    []api.Value
	Block     int
	OK        [2]bool
}

// draw is something to ask with, which often has answers.
func draw(r *rand.Rand) asked {
	var a asked
	a.C, a.F = drawCode(r)
	a.Shapes, a.Regs, a.Consts = drawShapes(r), drawValues(r, 6), drawValues(r, 3)
	if r.Intn(4) == 0 && len(a.Shapes) > 0 {
		// Shapes that share all they have.
		a.Shapes = append(a.Shapes, a.Shapes...)
	}
	return a
}

// ask asks everything.
func ask(a asked) answered {
	var out answered
	out.Frames, out.OK[0] = Frames(a.Shapes, a.Regs, a.Consts)
	out.Registers, out.Block, out.OK[1] = Registers(a.C, a.F)
	for _, s := range a.Shapes {
		for _, o := range s.Slots {
			v, _ := Value(o, a.Regs, a.Consts)
			out.Values = append(out.Values, v)
		}
	}
	return out
}

// mark is a value in which something stands everywhere.
func mark(t reflect.Type) reflect.Value {
	v := reflect.New(t).Elem()
	switch t.Kind() {
	case reflect.Int, reflect.Int64:
		v.SetInt(77)
	case reflect.Uint16:
		v.SetUint(77)
	case reflect.String:
		v.SetString("room")
	case reflect.Struct:
		for k := range t.NumField() {
			v.Field(k).Set(mark(t.Field(k).Type))
		}
	case reflect.Slice:
		v.Set(reflect.Append(v, mark(t.Elem())))
	}
	return v
}

// copyWith is a copy of a value whose lists, those inside too, are as long as a function says, and have room behind them that is marked.
func copyWith(v reflect.Value, long func(l reflect.Value) int, room int) reflect.Value {
	out := reflect.New(v.Type()).Elem()
	switch v.Kind() {
	case reflect.Slice:
		n := long(v)
		out.Set(reflect.MakeSlice(v.Type(), n+room, n+room))
		for k := range n {
			out.Index(k).Set(copyWith(v.Slice(0, n).Index(k), long, room))
		}
		for k := range room {
			out.Index(n + k).Set(mark(v.Type().Elem()))
		}
		out.Set(out.Slice(0, n))
	case reflect.Struct:
		for k := range v.NumField() {
			out.Field(k).Set(copyWith(v.Field(k), long, room))
		}
	default:
		out.Set(v)
	}
	return out
}

// roomy is a copy whose lists all have spare room that is marked.
func roomy(a asked) asked {
	return copyWith(reflect.ValueOf(a), reflect.Value.Len, 2).Interface().(asked)
}

// unfolded is a copy with all that lies in its lists' room.
func unfolded[T any](a T) T {
	return copyWith(reflect.ValueOf(a), reflect.Value.Cap, 0).Interface().(T)
}

// R4: nothing that is handed in is changed, its spare room included.
func TestArgumentsStay(t *testing.T) {
	r := rand.New(rand.NewSource(4))
	for range 2000 {
		a := roomy(draw(r))
		before := unfolded(a)
		ask(a)
		if !reflect.DeepEqual(unfolded(a), before) {
			t.Fatal("what was handed in became", a)
		}
	}
}

// span is where a list lies, its spare room included.
type span struct {
	from, to uintptr
}

// spans are those of all lists of a value, those inside of others too.
func spans(v reflect.Value) []span {
	var l []span
	switch v.Kind() {
	case reflect.Slice:
		if v.Cap() > 0 {
			l = append(l, span{v.Pointer(), v.Pointer() + uintptr(v.Cap())*v.Type().Elem().Size()})
		}
		for k := range v.Len() {
			l = append(l, spans(v.Index(k))...)
		}
	case reflect.Struct:
		for k := range v.NumField() {
			l = append(l, spans(v.Field(k))...)
		}
	}
	return l
}

// R4: an answer is new memory: no list of it shares any with another one, with another answer or with what was handed in.
func TestAnswerIsNew(t *testing.T) {
	r := rand.New(rand.NewSource(44))
	n := 0
	for range 2000 {
		a := draw(r)
		one, other := ask(a), ask(a)
		if !reflect.DeepEqual(one, other) {
			t.Fatal("two answers differ")
		}
		in := spans(reflect.ValueOf(a))
		out := slices.Concat(spans(reflect.ValueOf(one)), spans(reflect.ValueOf(other)))
		n += len(out)
		for k, x := range out {
			for _, y := range slices.Concat(in, out[:k]) {
				if x.from < y.to && y.from < x.to {
					t.Fatalf("two lists share memory: %+v", a)
				}
			}
		}
		runtime.KeepAlive(a)
		runtime.KeepAlive(one)
		runtime.KeepAlive(other)
	}
	if n < 2000 {
		t.Error("few lists:", n)
	}
}

// R4 and R5: an answer does not hang on what becomes of what was handed in, nor of another answer, nor on what was asked before.
func TestAnswerIsKept(t *testing.T) {
	r := rand.New(rand.NewSource(45))
	for range 2000 {
		a := draw(r)
		one, other := ask(a), ask(a)
		want := unfolded(one)
		wipe(reflect.ValueOf(a))
		wipe(reflect.ValueOf(other))
		ask(draw(r))
		if !reflect.DeepEqual(unfolded(one), want) {
			t.Fatal("it became", one)
		}
	}
}

// wipe marks all that lies in the lists of a value, from the innermost on.
func wipe(v reflect.Value) {
	switch v.Kind() {
	case reflect.Slice:
		v = v.Slice(0, v.Cap())
		for k := range v.Len() {
			wipe(v.Index(k))
			v.Index(k).Set(mark(v.Type().Elem()))
		}
	case reflect.Struct:
		for k := range v.NumField() {
			wipe(v.Field(k))
		}
	}
}

// R3: no list and an empty one are the same.
func TestEmptyLists(t *testing.T) {
	r := rand.New(rand.NewSource(3))
	for range 2000 {
		a := draw(r)
		full := copyWith(reflect.ValueOf(a), reflect.Value.Len, 0).Interface().(asked)
		if !reflect.DeepEqual(unfolded(ask(a)), unfolded(ask(full))) {
			t.Fatal("it hangs on empty lists", a)
		}
	}
}
