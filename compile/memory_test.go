package compile

import (
	"math/rand"
	"reflect"
	"runtime"
	"slices"
	"testing"

	"portage/api"
	"portage/sample"
)

// given is all that is handed in.
type given struct {
	P      api.Program
	F      api.Facts
	Prof   api.Profile
	Fns    []int
	Passes int
}

// draw is something to hand in.
func draw(t *testing.T, r *rand.Rand) given {
	p := sample.Caller(r, 30)
	g := given{p, factsOf(t, p), drawProfile(r, p), nil, drawPasses(r)}
	for range 4 {
		g.Fns = append(g.Fns, r.Intn(4))
	}
	return g
}

// answers are what all calls answer, of a cache too.
type answers struct {
	Code  api.Code
	Codes []api.Code
	All   []bool
}

func (g given) run() answers {
	a := answers{}
	a.Code, _ = Function(g.P, g.F, g.Fns[0], g.Prof, g.Passes)
	c := NewCache(g.P, g.F)
	c.Compile(g.Fns[0], g.Prof, g.Passes)
	a.All = c.All(g.Fns, g.Prof, g.Passes)
	for fn := range 4 {
		code, _ := c.Get(fn)
		again, _ := c.Get(fn)
		a.Codes = append(a.Codes, code, again)
	}
	return a
}

// same tells whether answers are alike, where no list and an empty one are alike.
func (a answers) same(b answers) bool {
	return sample.Same(a.Code, b.Code) && slices.EqualFunc(a.Codes, b.Codes, sample.Same) && slices.Equal(a.All, b.All)
}

// mark is a value in which something stands everywhere.
func mark(t reflect.Type) reflect.Value {
	v := reflect.New(t).Elem()
	switch t.Kind() {
	case reflect.Bool:
		v.SetBool(true)
	case reflect.Int, reflect.Int64:
		v.SetInt(77)
	case reflect.Uint16:
		v.SetUint(77)
	case reflect.String:
		v.SetString("room")
	case reflect.Struct:
		for k := range t.NumField() {
			v.Field(k).Set(mark(t.Field(k).Type))
		}
	case reflect.Slice:
		v.Set(reflect.Append(v, mark(t.Elem())))
	}
	return v
}

// copyWith is a copy of a value whose lists, those inside too, are as long as a function says, and have room behind them that is marked.
func copyWith(v reflect.Value, long func(l reflect.Value) int, room int) reflect.Value {
	out := reflect.New(v.Type()).Elem()
	switch v.Kind() {
	case reflect.Slice:
		n := long(v)
		out.Set(reflect.MakeSlice(v.Type(), n+room, n+room))
		for k := range n {
			out.Index(k).Set(copyWith(v.Slice(0, n).Index(k), long, room))
		}
		for k := range room {
			out.Index(n + k).Set(mark(v.Type().Elem()))
		}
		out.Set(out.Slice(0, n))
	case reflect.Struct:
		for k := range v.NumField() {
			out.Field(k).Set(copyWith(v.Field(k), long, room))
		}
	default:
		out.Set(v)
	}
	return out
}

// roomy is a copy whose lists all have spare room that is marked.
func roomy[T any](g T) T {
	return copyWith(reflect.ValueOf(g), reflect.Value.Len, 2).Interface().(T)
}

// unfolded is a copy with all that lies in its lists' room.
func unfolded[T any](g T) T {
	return copyWith(reflect.ValueOf(g), reflect.Value.Cap, 0).Interface().(T)
}

// copied is a copy whose lists, where they are empty, are not nil.
func copied[T any](g T) T {
	return copyWith(reflect.ValueOf(g), reflect.Value.Len, 0).Interface().(T)
}

// wipe marks all that lies in the lists of a value, from the innermost on.
func wipe(v reflect.Value) {
	switch v.Kind() {
	case reflect.Slice:
		v = v.Slice(0, v.Cap())
		for k := range v.Len() {
			wipe(v.Index(k))
			v.Index(k).Set(mark(v.Type().Elem()))
		}
	case reflect.Struct:
		for k := range v.NumField() {
			wipe(v.Field(k))
		}
	}
}

// R4: nothing that is handed in is changed, its spare room included.
func TestArgumentsStay(t *testing.T) {
	r := rand.New(rand.NewSource(4))
	for range 300 {
		g := roomy(draw(t, r))
		before := unfolded(g)
		g.run()
		if !reflect.DeepEqual(unfolded(g), before) {
			t.Fatal("what was handed in became", g)
		}
	}
}

// span is where a list lies, its spare room included.
type span struct {
	from, to uintptr
}

// spans are those of all lists of a value, those inside of others and of maps too.
func spans(v reflect.Value) []span {
	var l []span
	switch v.Kind() {
	case reflect.Slice:
		if v.Cap() > 0 {
			l = append(l, span{v.Pointer(), v.Pointer() + uintptr(v.Cap())*v.Type().Elem().Size()})
		}
		for k := range v.Len() {
			l = append(l, spans(v.Index(k))...)
		}
	case reflect.Struct:
		for k := range v.NumField() {
			l = append(l, spans(v.Field(k))...)
		}
	case reflect.Map:
		for _, k := range v.MapKeys() {
			l = append(l, spans(v.MapIndex(k))...)
		}
	case reflect.Pointer:
		l = spans(v.Elem())
	}
	return l
}

// apart tells whether no two spans share memory.
func apart(l []span) bool {
	slices.SortFunc(l, func(a, b span) int { return int(a.from) - int(b.from) })
	for k := range len(l) - 1 {
		if l[k].to > l[k+1].from {
			return false
		}
	}
	return true
}

// R4: an answer is new memory: no list of it shares any with another one, with another answer, with what was handed in or with what a cache keeps, which is its own too.
func TestAnswerIsNew(t *testing.T) {
	r := rand.New(rand.NewSource(44))
	for range 300 {
		g := draw(t, r)
		one, other := g.run(), g.run()
		if !one.same(other) {
			t.Fatal("two answers differ")
		}
		c := NewCache(g.P, g.F)
		held := c.All(g.Fns, g.Prof, g.Passes)
		first, _ := c.Get(g.Fns[0])
		second, _ := c.Get(g.Fns[0])
		again := c.All(g.Fns, g.Prof, g.Passes)
		if len(c.codes) == 0 || !slices.Equal(held, again) {
			t.Fatal("it holds nothing")
		}
		var l []span
		for _, x := range []any{g, one, other, held, again, first, second, c} {
			l = append(l, spans(reflect.ValueOf(x))...)
		}
		if !apart(l) {
			t.Fatalf("two lists share memory: %+v", g)
		}
		runtime.KeepAlive([]any{g, one, other, held, again, first, second, c})
	}
}

// R4 and R5: an answer does not hang on what becomes of what was handed in, nor of another answer.
func TestAnswerIsKept(t *testing.T) {
	r := rand.New(rand.NewSource(45))
	for range 300 {
		g := draw(t, r)
		one, other := g.run(), g.run()
		want := copied(one)
		wipe(reflect.ValueOf(g))
		wipe(reflect.ValueOf(other))
		if !one.same(want) {
			t.Fatal("it became", one)
		}
	}
}

// R4: a cache remembers its program and its facts as they were, and its code as that was laid in, whatever becomes of what was handed in and of what it answered.
func TestCacheRemembers(t *testing.T) {
	r := rand.New(rand.NewSource(46))
	for range 300 {
		g := draw(t, r)
		kept := copied(g)
		c := NewCache(g.P, g.F)
		wipe(reflect.ValueOf(g.P))
		wipe(reflect.ValueOf(g.F))
		for k, fn := range []int{3, 0, 1} {
			if k < 2 {
				c.Compile(fn, g.Prof, g.Passes)
			} else {
				wipe(reflect.ValueOf(c.All([]int{0, fn}, g.Prof, g.Passes)))
			}
			wipe(reflect.ValueOf(g.Prof))
			g.Prof = copied(kept.Prof)
			want, _ := Function(kept.P, kept.F, fn, kept.Prof, kept.Passes)
			for range 3 {
				x, _ := c.Get(fn)
				if !sample.Same(x, want) {
					t.Fatal("it became", x)
				}
				wipe(reflect.ValueOf(x))
			}
		}
	}
}

// R3: no list and an empty one are the same.
func TestEmptyLists(t *testing.T) {
	r := rand.New(rand.NewSource(3))
	for range 300 {
		g := draw(t, r)
		if !g.run().same(copied(g).run()) {
			t.Fatal("it hangs on empty lists", g)
		}
	}
	p, prof := example(t)
	c := NewCache(p, factsOf(t, p))
	if len(c.All(nil, prof, 31)) != 0 || len(c.All([]int{}, prof, 32)) != 0 || len(c.All(nil, api.Profile{}, -1)) != 0 || c.Len() != 0 {
		t.Error("All of none")
	}
}
