package fold

import (
	"math/rand"
	"reflect"
	"runtime"
	"slices"
	"testing"

	"portage/api"
	"portage/sample"
)

// handed is all that is handed in.
type handed struct {
	P api.Program
	C api.Code
}

func (g handed) run() api.Code { return Run(g.P, g.C) }

// draw is something to hand in: right, or not.
func draw(t *testing.T, r *rand.Rand) handed {
	p := sample.Caller(r, 30)
	g := handed{p, passed(t, r, p, r.Intn(3))}
	switch r.Intn(4) {
	case 0:
		g.C = sample.Code(r, p, factsOf(t, p), g.C)
	case 1:
		sample.Spoil(r, &g.C)
	case 2:
		var l []api.RIns
		for range r.Intn(20) {
			l = append(l, crowded(r))
		}
		g = handed{given(t), written(append(l, branch(api.OpJz, null()))...)}
	}
	return g
}

// mark is a value in which something stands everywhere.
func mark(t reflect.Type) reflect.Value {
	v := reflect.New(t).Elem()
	switch t.Kind() {
	case reflect.Int, reflect.Int64:
		v.SetInt(77)
	case reflect.String:
		v.SetString("room")
	case reflect.Struct:
		for k := range t.NumField() {
			v.Field(k).Set(mark(t.Field(k).Type))
		}
	case reflect.Slice:
		v.Set(reflect.Append(v, mark(t.Elem())))
	}
	return v
}

// copyWith is a copy of a value whose lists, those inside too, are as long as a function says, and have room behind them that is marked.
func copyWith(v reflect.Value, long func(l reflect.Value) int, room int) reflect.Value {
	out := reflect.New(v.Type()).Elem()
	switch v.Kind() {
	case reflect.Slice:
		n := long(v)
		out.Set(reflect.MakeSlice(v.Type(), n+room, n+room))
		for k := range n {
			out.Index(k).Set(copyWith(v.Slice(0, n).Index(k), long, room))
		}
		for k := range room {
			out.Index(n + k).Set(mark(v.Type().Elem()))
		}
		out.Set(out.Slice(0, n))
	case reflect.Struct:
		for k := range v.NumField() {
			out.Field(k).Set(copyWith(v.Field(k), long, room))
		}
	default:
		out.Set(v)
	}
	return out
}

// roomy is a copy whose lists all have spare room that is marked.
func roomy(g handed) handed {
	return copyWith(reflect.ValueOf(g), reflect.Value.Len, 2).Interface().(handed)
}

// unfolded is a copy with all that lies in its lists' room.
func unfolded(g handed) handed {
	return copyWith(reflect.ValueOf(g), reflect.Value.Cap, 0).Interface().(handed)
}

// R4: nothing that is handed in is changed, its spare room included.
func TestArgumentsStay(t *testing.T) {
	r := rand.New(rand.NewSource(4))
	for range 400 {
		g := roomy(draw(t, r))
		before := unfolded(g)
		g.run()
		if !reflect.DeepEqual(unfolded(g), before) {
			t.Fatal("what was handed in became", g)
		}
	}
}

// span is where a list lies, its spare room included.
type span struct {
	from, to uintptr
}

// spans are those of all lists of a value, those inside of others too.
func spans(v reflect.Value) []span {
	var l []span
	switch v.Kind() {
	case reflect.Slice:
		if v.Cap() > 0 {
			l = append(l, span{v.Pointer(), v.Pointer() + uintptr(v.Cap())*v.Type().Elem().Size()})
		}
		for k := range v.Len() {
			l = append(l, spans(v.Index(k))...)
		}
	case reflect.Struct:
		for k := range v.NumField() {
			l = append(l, spans(v.Field(k))...)
		}
	}
	return l
}

// R4: an answer is new memory: no list of it shares any with another one, with another answer or with what was handed in, right or not.
func TestAnswerIsNew(t *testing.T) {
	r := rand.New(rand.NewSource(44))
	for range 400 {
		g := draw(t, r)
		if r.Intn(8) == 0 {
			// Blocks that share all they have.
			for k := range g.C.Blocks {
				g.C.Blocks[k] = g.C.Blocks[0]
			}
		}
		one, other := g.run(), g.run()
		if !reflect.DeepEqual(one, other) {
			t.Fatal("two answers differ")
		}
		in := spans(reflect.ValueOf(g))
		out := slices.Concat(spans(reflect.ValueOf(one)), spans(reflect.ValueOf(other)))
		for k, a := range out {
			for _, b := range slices.Concat(in, out[:k]) {
				if a.from < b.to && b.from < a.to {
					t.Fatalf("two lists share memory: %+v", g)
				}
			}
		}
		runtime.KeepAlive(g)
		runtime.KeepAlive(one)
		runtime.KeepAlive(other)
	}
}

// R4 and R5: an answer does not hang on what becomes of what was handed in, nor of another answer, nor on what was asked before.
func TestAnswerIsKept(t *testing.T) {
	r := rand.New(rand.NewSource(45))
	for range 400 {
		g := draw(t, r)
		one, other := g.run(), g.run()
		want := sample.Copied(one)
		wipe(reflect.ValueOf(g))
		wipe(reflect.ValueOf(other))
		if !sample.Same(one, want) {
			t.Fatal("it became", one)
		}
	}
}

// wipe marks all that lies in the lists of a value, from the innermost on.
func wipe(v reflect.Value) {
	switch v.Kind() {
	case reflect.Slice:
		v = v.Slice(0, v.Cap())
		for k := range v.Len() {
			wipe(v.Index(k))
			v.Index(k).Set(mark(v.Type().Elem()))
		}
	case reflect.Struct:
		for k := range v.NumField() {
			wipe(v.Field(k))
		}
	}
}

// R3: no list and an empty one are the same.
func TestEmptyLists(t *testing.T) {
	r := rand.New(rand.NewSource(3))
	for range 400 {
		g := draw(t, r)
		full := copyWith(reflect.ValueOf(g), reflect.Value.Len, 0).Interface().(handed)
		if !sample.Same(g.run(), full.run()) {
			t.Fatal("it hangs on empty lists", g)
		}
	}
}
