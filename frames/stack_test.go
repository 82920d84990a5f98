package frames

import (
	"math/rand"
	"slices"
	"testing"

	"portage/api"
)

// The chapter's examples of a stack, one call behind the other.
func TestStackExamples(t *testing.T) {
	s := NewStack(1, 2, 3)
	if l, ok := s.Pop(2); !slices.Equal(l, []int{2, 3}) || !ok {
		t.Error("Pop", l, ok)
	}
	if l := s.Items(); !slices.Equal(l, []int{1}) {
		t.Error("Items", l)
	}
	if x, ok := s.Top(0); x != 1 || !ok {
		t.Error("Top 0", x, ok)
	}
	if x, ok := s.Top(1); x != 0 || ok {
		t.Error("Top 1", x, ok)
	}
	if l, ok := s.Pop(2); len(l) != 0 || ok {
		t.Error("Pop of too many", l, ok)
	}
	if s.Cut(2) || !s.Cut(0) || s.Len() != 0 {
		t.Error("Cut", s.Items())
	}
}

// P14.1: a stack of all lengths, the empty one in all its spellings.
func TestNewStack(t *testing.T) {
	alike(t, NewStack[int](), &model[int]{})
	alike(t, NewStack([]int(nil)...), &model[int]{})
	alike(t, NewStack([]int{}...), &model[int]{})
	var l []int
	for n := range 40 {
		alike(t, NewStack(l...), &model[int]{l})
		l = append(l, n*7%5)
	}
}

// P14.1: two stacks know nothing of one another, those of one list either.
func TestStacksAreApart(t *testing.T) {
	l := []int{1, 2, 3, 4}
	a, b, c := NewStack(l[:2]...), NewStack(l[:2]...), NewStack(l...)
	a.Push(5)
	b.Push(6)
	a.Cut(1)
	a.Push(7)
	c.Pop(3)
	alike(t, a, &model[int]{[]int{1, 7}})
	alike(t, b, &model[int]{[]int{1, 2, 6}})
	alike(t, c, &model[int]{[]int{1}})
}

// P14.2: things are laid on singly, several at once, and none.
func TestPush(t *testing.T) {
	s, m := NewStack[string](), &model[string]{}
	for _, l := range [][]string{{"a"}, nil, {"b", "c"}, {}, {"", "a", "a"}, {"d"}} {
		s.Push(l...)
		m.push(l...)
		alike(t, s, m)
	}
	if !slices.Equal(s.Items(), []string{"a", "b", "c", "", "a", "a", "d"}) {
		t.Error(s.Items())
	}
}

// asked are all numbers that a stack of so many may be asked with.
func asked(n int) []int {
	l := edges()
	for i := -1; i <= n+1; i++ {
		l = append(l, i)
	}
	return l
}

// P14.3, P14.5: of stacks of all lengths each number is popped and cut, with room behind the stack and without.
func TestPopAndCut(t *testing.T) {
	var l []int
	for n := range 9 {
		for _, k := range asked(n) {
			for _, spare := range []int{0, 1, 5} {
				fresh := func() (*Stack[int], *model[int]) {
					s := NewStack(append(slices.Clone(l), make([]int, spare)...)...)
					s.Cut(n)
					return s, &model[int]{slices.Clone(l)}
				}
				s, m := fresh()
				samePop(t, s, m, k)
				s, m = fresh()
				sameCut(t, s, m, k)
			}
		}
		l = append(l, 10+n)
	}
}

// P14.3: beside a false there are no things, and nothing is taken, however often it is asked.
func TestPopOfTooMany(t *testing.T) {
	s := NewStack(1, 2)
	for range 3 {
		for _, n := range []int{3, 4, -1, -2} {
			if l, ok := s.Pop(n); len(l) != 0 || ok {
				t.Errorf("Pop(%d) = %v %v", n, l, ok)
			}
		}
	}
	alike(t, s, &model[int]{[]int{1, 2}})
}

// P14.4: beside a false Top is T's zero value, whatever T is.
func TestTopOfNone(t *testing.T) {
	for _, n := range []int{-1, 1, 2} {
		if x, ok := NewStack("a").Top(n); x != "" || ok {
			t.Error(n, x)
		}
		if x, ok := NewStack(num(3)).Top(n); x != (api.Value{}) || ok {
			t.Error(n, x)
		}
		if x, ok := NewStack(new(int)).Top(n); x != nil || ok {
			t.Error(n, x)
		}
		if x, ok := NewStack([]int{4}).Top(n); x != nil || ok {
			t.Error(n, x)
		}
		if x, ok := NewStack[error](api.ErrArg).Top(n); x != nil || ok {
			t.Error(n, x)
		}
	}
}

// P14.1 to P14.5: long rows of calls by chance.
func TestStackAgainstTheModel(t *testing.T) {
	r := rand.New(rand.NewSource(1))
	for range 300 {
		s, m := NewStack[int](), &model[int]{}
		for range 200 {
			switch k := r.Intn(len(m.row)+4) - 2; r.Intn(5) {
			case 0:
				samePop(t, s, m, k)
			case 1:
				sameCut(t, s, m, len(m.row)-r.Intn(4)+1)
			default:
				var l []int
				for range r.Intn(4) {
					l = append(l, r.Int())
				}
				s.Push(l...)
				m.push(l...)
				alike(t, s, m)
			}
		}
	}
}

// P14.1: things of any type lie in a stack as Go assigns them: what they point to is the same.
func TestThingsAreNotCopied(t *testing.T) {
	x := 1
	s := NewStack(&x)
	if l, _ := s.Pop(1); l[0] != &x {
		t.Error("another pointer")
	}
	lists := NewStack([]int{1})
	lists.Items()[0][0] = 9
	if l, _ := lists.Top(0); l[0] != 9 {
		t.Error("the list inside is another one")
	}
	calls := NewStack(func() { x = 5 })
	f, _ := calls.Top(0)
	f()
	if x != 5 {
		t.Error("another function")
	}
	none := NewStack(struct{}{}, struct{}{})
	none.Push(struct{}{})
	if l, ok := none.Pop(2); len(l) != 2 || !ok || none.Len() != 1 {
		t.Error("things of no size", l, ok, none.Len())
	}
}

// P14.2, P14.3, P14.5: what is done on top of a high stack does not hang on its height.
func TestHighStack(t *testing.T) {
	s := NewStack(make([]int, 1<<20)...)
	for i := range 1 << 20 {
		s.Push(i, i+1)
		if l, ok := s.Pop(1); !ok || l[0] != i+1 {
			t.Fatal("Pop", l, ok)
		}
		if x, ok := s.Top(0); x != i || !ok {
			t.Fatal("Top", x, ok)
		}
		if !s.Cut(1 << 20) {
			t.Fatal("Cut")
		}
	}
	if s.Len() != 1<<20 {
		t.Error(s.Len())
	}
}
