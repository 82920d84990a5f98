package live

import (
	"math/rand"
	"reflect"
	"runtime"
	"slices"
	"testing"

	"portage/api"
	"portage/sample"
)

// draw is something to hand in: right, or not.
func draw(t *testing.T, r *rand.Rand) api.Code {
	p := sample.Caller(r, 30)
	c := passed(t, r, p, r.Intn(3))
	switch r.Intn(4) {
	case 0:
		c = sample.Code(r, p, factsOf(t, p), c)
	case 1:
		sample.Spoil(r, &c)
	case 2:
		c = crowd(r)
	}
	return c
}

// mark is a value in which something stands everywhere.
func mark(t reflect.Type) reflect.Value {
	v := reflect.New(t).Elem()
	switch t.Kind() {
	case reflect.Int, reflect.Int64:
		v.SetInt(77)
	case reflect.Uint16:
		v.SetUint(77)
	case reflect.String:
		v.SetString("room")
	case reflect.Struct:
		for k := range t.NumField() {
			v.Field(k).Set(mark(t.Field(k).Type))
		}
	case reflect.Slice:
		v.Set(reflect.Append(v, mark(t.Elem())))
	}
	return v
}

// copyWith is a copy of a value whose lists, those inside too, are as long as a function says, and have room behind them that is marked.
func copyWith(v reflect.Value, long func(l reflect.Value) int, room int) reflect.Value {
	out := reflect.New(v.Type()).Elem()
	switch v.Kind() {
	case reflect.Slice:
		n := long(v)
		out.Set(reflect.MakeSlice(v.Type(), n+room, n+room))
		for k := range n {
			out.Index(k).Set(copyWith(v.Slice(0, n).Index(k), long, room))
		}
		for k := range room {
			out.Index(n + k).Set(mark(v.Type().Elem()))
		}
		out.Set(out.Slice(0, n))
	case reflect.Struct:
		for k := range v.NumField() {
			out.Field(k).Set(copyWith(v.Field(k), long, room))
		}
	default:
		out.Set(v)
	}
	return out
}

// roomy is a copy whose lists all have spare room that is marked.
func roomy(c api.Code) api.Code {
	return copyWith(reflect.ValueOf(c), reflect.Value.Len, 2).Interface().(api.Code)
}

// unfolded is a copy with all that lies in its lists' room.
func unfolded(c api.Code) api.Code {
	return copyWith(reflect.ValueOf(c), reflect.Value.Cap, 0).Interface().(api.Code)
}

// R4: nothing that is handed in is changed, its spare room included.
func TestArgumentsStay(t *testing.T) {
	r := rand.New(rand.NewSource(4))
	for range 400 {
		c := roomy(draw(t, r))
		before := unfolded(c)
		Run(c)
		After(c, r.Intn(5), r.Intn(9))
		if !reflect.DeepEqual(unfolded(c), before) {
			t.Fatal("what was handed in became", c)
		}
	}
}

// span is where a list lies, its spare room included.
type span struct {
	from, to uintptr
}

// spans are those of all lists of a value, those inside of others too.
func spans(v reflect.Value) []span {
	var l []span
	switch v.Kind() {
	case reflect.Slice:
		if v.Cap() > 0 {
			l = append(l, span{v.Pointer(), v.Pointer() + uintptr(v.Cap())*v.Type().Elem().Size()})
		}
		for k := range v.Len() {
			l = append(l, spans(v.Index(k))...)
		}
	case reflect.Struct:
		for k := range v.NumField() {
			l = append(l, spans(v.Field(k))...)
		}
	}
	return l
}

// R4: an answer is new memory: no list of it shares any with another one, with another answer or with what was handed in, right or not.
func TestAnswerIsNew(t *testing.T) {
	r := rand.New(rand.NewSource(44))
	for range 400 {
		c := draw(t, r)
		if r.Intn(8) == 0 {
			// Blocks that share all they have.
			for k := range c.Blocks {
				c.Blocks[k] = c.Blocks[0]
			}
		}
		one, other := Run(c), Run(c)
		if !reflect.DeepEqual(one, other) {
			t.Fatal("two answers differ")
		}
		in := spans(reflect.ValueOf(c))
		out := slices.Concat(spans(reflect.ValueOf(one)), spans(reflect.ValueOf(other)))
		for k, a := range out {
			for _, b := range slices.Concat(in, out[:k]) {
				if a.from < b.to && b.from < a.to {
					t.Fatalf("two lists share memory: %+v", c)
				}
			}
		}
		runtime.KeepAlive(c)
		runtime.KeepAlive(one)
		runtime.KeepAlive(other)
	}
}

// R4 and R5: an answer does not hang on what becomes of what was handed in, nor of another answer, nor on what was asked before.
func TestAnswerIsKept(t *testing.T) {
	r := rand.New(rand.NewSource(45))
	for range 400 {
		c := draw(t, r)
		one, other := Run(c), Run(c)
		want := sample.Copied(one)
		wipe(reflect.ValueOf(c))
		wipe(reflect.ValueOf(other))
		if !sample.Same(one, want) {
			t.Fatal("it became", one)
		}
	}
}

// wipe marks all that lies in the lists of a value, from the innermost on.
func wipe(v reflect.Value) {
	switch v.Kind() {
	case reflect.Slice:
		v = v.Slice(0, v.Cap())
		for k := range v.Len() {
			wipe(v.Index(k))
			v.Index(k).Set(mark(v.Type().Elem()))
		}
	case reflect.Struct:
		for k := range v.NumField() {
			wipe(v.Field(k))
		}
	}
}

// R4 and R5: so it is with what After answers.
func TestAfterIsNew(t *testing.T) {
	r := rand.New(rand.NewSource(46))
	for range 400 {
		c := draw(t, r)
		k, j := r.Intn(5), r.Intn(9)
		one, other := After(c, k, j), After(c, k, j)
		want := slices.Clone(one)
		wipe(reflect.ValueOf(other))
		Run(c)
		wipe(reflect.ValueOf(c))
		if !slices.Equal(one, want) {
			t.Fatal("it became", one)
		}
	}
}

// R3: no list and an empty one are the same.
func TestEmptyLists(t *testing.T) {
	r := rand.New(rand.NewSource(3))
	for range 400 {
		c := draw(t, r)
		full := copyWith(reflect.ValueOf(c), reflect.Value.Len, 0).Interface().(api.Code)
		k, j := r.Intn(5), r.Intn(9)
		if !sample.Same(Run(c), Run(full)) || !slices.Equal(After(c, k, j), After(full, k, j)) {
			t.Fatal("it hangs on empty lists", c)
		}
	}
}
