package states

import (
	"math/rand"
	"testing"

	"portage/api"
)

// ledTo tells whether every text and object of a state is led to from its slots.
func ledTo(s api.State) bool {
	texts, objects := metIn(s)
	return len(texts) == len(s.Texts) && len(objects) == len(s.Objects)
}

// P15.5: Canon of a right state is right, its own Canon, led to everywhere, and is asked like the state.
func TestCanonStaysRight(t *testing.T) {
	p, f := yard(t)
	r := rand.New(rand.NewSource(155))
	for range 10000 {
		s := made(r, p, f)
		c := Canon(s)
		if Check(p, f, c) != api.OK || !equal(Canon(c), c) || !ledTo(c) || !Same(s, c) {
			t.Fatalf("%+v: Canon is %+v", s, c)
		}
		if Safe(p, c) != Safe(p, s) {
			t.Fatalf("%+v: Safe is not %v any more", s, Safe(p, s))
		}
		for k := -1; k <= len(s.Fibers); k++ {
			if Blocked(p, c, k) != Blocked(p, s, k) {
				t.Fatalf("%+v: Blocked of %d is not %v any more", s, k, Blocked(p, s, k))
			}
		}
	}
}

// P15.6: another order of texts and objects, and more of them that nothing leads to, change nothing.
func TestNumbersDoNotMatter(t *testing.T) {
	p, f := yard(t)
	r := rand.New(rand.NewSource(156))
	others := 0
	for range 10000 {
		s := made(r, p, f)
		m := moved(r, s)
		if Check(p, f, m) != api.OK {
			t.Fatalf("%+v moved to %+v: no state", s, m)
		}
		if !equal(Canon(m), Canon(s)) || !Same(s, m) || !Same(m, s) {
			t.Fatalf("%+v moved to %+v: %+v and %+v", s, m, Canon(s), Canon(m))
		}
		if Safe(p, m) != Safe(p, s) || Blocked(p, m, s.Current) {
			t.Fatalf("%+v moved to %+v: Safe or Blocked is another", s, m)
		}
		if !equal(s, m) {
			others++
		}
	}
	if others < 5000 {
		t.Error("only", others, "were moved")
	}
}

// R5: the same is answered again, whatever was asked between; no answer hangs on the order of a map.
func TestAskedAgain(t *testing.T) {
	p, f := yard(t)
	r := rand.New(rand.NewSource(5))
	for range 200 {
		s := drawn(r, p, f)
		c, err := Canon(s), Check(p, f, s)
		for range 10 {
			b := drawn(r, p, f)
			Canon(b)
			Same(s, b)
			Check(p, f, b)
			if !equal(Canon(s), c) || Check(p, f, s) != err {
				t.Fatalf("%+v: %+v, then %+v", s, c, Canon(s))
			}
		}
	}
}
