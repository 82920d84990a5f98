package asm

import (
	"math/rand"
	"slices"
	"strings"
	"testing"

	"portage/api"
)

// example is the chapter's first example.
const example = `const real 0.5          # constant 0
const text "a\n\x00"
func main 0 1
  int 3
  store 0
again:
  func half
  load 0
  call 1
  print
  load 0
  int 1
  sub
  store 0
  int 0
  load 0
  lt
  jnz again
  nil
  ret
func half 1 1
from:
  load 0
  const 0
  mul
  ret
to:
  handler from to other 0
other:
  ret
`

func TestExample(t *testing.T) {
	p, n, e := Parse(example)
	if n != 0 || e != api.OK {
		t.Fatal(n, e)
	}
	want := api.Program{
		Consts: []api.Const{{Kind: api.Real, N: 0x3fe0000000000000}, {Kind: api.Text, Text: "a\n\x00"}},
		Funcs: []api.Function{
			{Name: "main", Locals: 1, Code: []api.Instr{
				{Op: api.OpInt, A: 3}, {Op: api.OpStore}, {Op: api.OpFunc, A: 1}, {Op: api.OpLoad}, {Op: api.OpCall, A: 1}, {Op: api.OpPrint},
				{Op: api.OpLoad}, {Op: api.OpInt, A: 1}, {Op: api.OpSub}, {Op: api.OpStore}, {Op: api.OpInt}, {Op: api.OpLoad}, {Op: api.OpLt},
				{Op: api.OpJnz, A: 2}, {Op: api.OpNil}, {Op: api.OpRet}}},
			{Name: "half", Params: 1, Locals: 1,
				Code:     []api.Instr{{Op: api.OpLoad}, {Op: api.OpConst}, {Op: api.OpMul}, {Op: api.OpRet}, {Op: api.OpRet}},
				Handlers: []api.Handler{{To: 4, Target: 4}}},
		},
	}
	if !alike(p, want) {
		t.Error(p)
	}
	asTold(t, example)
}

// P11.1: each thing that may be wrong with a line, the first of several, and what is wrong with the whole.
func TestFaults(t *testing.T) {
	long, longer := strings.Repeat("l", 32), strings.Repeat("l", 33)
	for _, c := range []struct {
		text string
		line int
		err  api.Errno
	}{
		// the chapter's own
		{"func main 0 0 / nil / ret", 0, api.OK},
		{"nil", 1, api.ErrForm},
		{"func main 0 0 / jump l / ret", 2, api.ErrLost},
		{"func main 0 0 / jump l / rets", 3, api.ErrOp},
		{"func main 0 0 / nil / ret 1", 3, api.ErrLong},
		{"func main 0 0 / l: / jump l / jump m / m:", 4, api.ErrIndex},
		{"func main 0 x / nil", 1, api.ErrText},
		{"const text \"a / func main 0 0", 1, api.ErrText},
		{"func main 1 1 / nil / ret", 1, api.ErrArg},
		{"", 0, api.ErrShort},
		// words and broken lines
		{"# / #\"", 0, api.ErrShort},
		{"func main 0 0 / nop \"", 2, api.ErrText},
		{"func main 0 0 / nop \"a\\\"", 2, api.ErrText},
		{"func main 0 0 / nop \"a\\", 2, api.ErrText},
		{"func main 0 0 / nop \"a\"#", 2, api.ErrText},
		{"func main 0 0 / nop \"a\"\"b\"", 2, api.ErrText},
		{"func main 0 0 / nop \"a\" \"b\"", 2, api.ErrLong},
		{"func main 0 0 / nop # \"", 0, api.OK},
		{"func main 0 0 / nop#", 2, api.ErrOp},
		{"func main 0 0 / nop\v", 2, api.ErrOp},
		{"func main 0 0 / nop\u00a0", 2, api.ErrOp},
		{"func main 0 0 / \r\t nop \r\t#", 0, api.OK},
		{"func main 0 0\r / nop\r", 0, api.OK},
		{"func main 0 0\rnop", 1, api.ErrLong},
		{"nil \"", 1, api.ErrText},
		{"\"\"", 1, api.ErrForm},
		{"func main 0 0 / \"nop\"", 2, api.ErrOp},
		// constants
		{"const real 1 / const real -nan", 2, api.ErrText},
		{"const real \"1\"", 1, api.ErrText},
		{"const real", 1, api.ErrShort},
		{"const real x y", 1, api.ErrLong},
		{"const real " + strings.Repeat("1", 800) + " / func f 0 0 / nop", 0, api.OK},
		{"const real " + strings.Repeat("1", 801), 1, api.ErrMany},
		{"const text", 1, api.ErrShort},
		{"const text a b", 1, api.ErrLong},
		{"const text a", 1, api.ErrText},
		{"const text \"\\z\"", 1, api.ErrText},
		{"const", 1, api.ErrForm},
		{"const 0", 1, api.ErrForm},
		{"const \"real\" 1", 1, api.ErrForm},
		{"func f 0 0 / const real", 2, api.ErrForm},
		{"func f 0 0 / const text a b", 2, api.ErrForm},
		{"func f 0 0 / const", 2, api.ErrShort},
		{"func f 0 0 / const reals", 2, api.ErrText},
		{"func f 0 0 / const 0 real", 2, api.ErrLong},
		{"const real 1 / const real 1.0 / func f 0 0 / nop", 2, api.ErrTwice},
		{"const real 0 / const real -0 / func f 0 0 / nop", 0, api.OK},
		{"const text \"\" / const text \"a\" / const text \"\\x61\"", 3, api.ErrTwice},
		{"const text \"" + strings.Repeat("a", 4096) + "\" / func f 0 0 / nop", 0, api.OK},
		{"const text \"" + strings.Repeat("a", 4097) + "\" / func f 0 0 / nop", 1, api.ErrMany},
		// heads
		{"func", 1, api.ErrShort},
		{"func f", 1, api.ErrForm},
		{"func f 0", 1, api.ErrShort},
		{"func f x y z", 1, api.ErrLong},
		{"func f x 9223372036854775808", 1, api.ErrText},
		{"func f 9223372036854775808 x", 1, api.ErrMany},
		{"func f 0 9223372036854775808", 1, api.ErrMany},
		{"func f 0 9223372036854775807 / nop", 1, api.ErrMany},
		{"func f 0 0 / nop / func", 3, api.ErrShort},
		{"func f 0 0 / func f", 0, api.OK},
		{"func f 0 0 / func g", 2, api.ErrLost},
		{"func f 0 0 / func g / func g 0 0 / nop", 0, api.OK},
		{"func a-b 0 0 / nop", 1, api.ErrText},
		{"func \"a\" 0 0 / func \"a\"", 1, api.ErrText},
		{"func é 0 0 / func é / l: / l:", 4, api.ErrTwice},
		{"func " + long + " 0 0 / nop", 0, api.OK},
		{"func " + longer + " 0 0 / nop", 1, api.ErrMany},
		{"func f 0 0 / nop / func g 1 0 / nop", 3, api.ErrArg},
		{"func f 0 0 / nop / func g -1 0 / nop", 3, api.ErrArg},
		{"func f 0 65 / nop", 1, api.ErrMany},
		{"func f 0 0 / nop / func f 0 0 / nop", 3, api.ErrTwice},
		{"func f 0 0 / nop / func f 0 0 / func f / jump l", 5, api.ErrLost},
		{"func f 0 0 / # nothing / l:", 1, api.ErrShort},
		// labels
		{"l:", 1, api.ErrForm},
		{"func f 0 0 / a-b: c", 2, api.ErrLong},
		{"func f 0 0 / a-b:", 2, api.ErrText},
		{"func f 0 0 / :", 2, api.ErrText},
		{"func f 0 0 / l::", 2, api.ErrText},
		{"func f 0 0 / l: / l: x", 3, api.ErrLong},
		{"func f 0 0 / l: / nop / l:", 4, api.ErrTwice},
		{"func f 0 0 / " + long + ": / jump " + long, 0, api.OK},
		{"func f 0 0 / " + longer + ":", 2, api.ErrText},
		{"func f 0 0 / é:", 2, api.ErrText},
		{"func f 0 0 / a\xff:", 2, api.ErrText},
		{"func f 0 0 / l: / nop / func g 0 0 / l: / nop", 0, api.OK},
		{"func f 0 0 / l: / nop / func g 0 0 / jump l", 5, api.ErrLost},
		{"func f 0 0 / jump l / func g 0 0 / l: / nop", 2, api.ErrLost},
		{"func f 0 0 / handler: / func: / const: / jump func / jump const / jump handler", 0, api.OK},
		{"func f 0 0 / l: / jump l:", 3, api.ErrLost},
		// handlers
		{"handler", 1, api.ErrForm},
		{"func f 0 0 / handler", 2, api.ErrShort},
		{"func f 0 0 / handler a b c", 2, api.ErrShort},
		{"func f 0 0 / handler a b c x y", 2, api.ErrLong},
		{"func f 0 0 / handler a b c x", 2, api.ErrText},
		{"func f 0 0 / handler a b c 9223372036854775808", 2, api.ErrMany},
		{"func f 0 0 / a: / nop / b: / handler c b a 0", 5, api.ErrLost},
		{"func f 0 0 / a: / nop / b: / handler a c a 0", 5, api.ErrLost},
		{"func f 0 0 / a: / nop / b: / handler a b c 0", 5, api.ErrLost},
		{"func f 0 0 / a: / nop / b: / handler a b a 0", 0, api.OK},
		{"func f 0 0 / handler a b a 63 / a: / nop / b:", 0, api.OK},
		{"func f 0 0 / a: / nop / b: / handler a b a 64", 5, api.ErrIndex},
		{"func f 0 0 / a: / nop / b: / handler a b a -1", 5, api.ErrIndex},
		{"func f 0 0 / a: / nop / b: / handler a b b 0", 5, api.ErrIndex},
		{"func f 0 0 / a: / nop / b: / handler a b a 0 / handler b b a 0", 6, api.ErrIndex},
		// the same number names nothing in an instruction, in a handler
		{"func f 0 0 / handler a a a 0 / a: / load 0", 4, api.ErrIndex},
		{"func f 0 0 / handler a a a 0 / a: / nop / load 0", 5, api.ErrIndex},
		{"func f 0 0 / handler a a a 0 / a: / nop / func g 0 0 / load 0", 2, api.ErrIndex},
		{"func f 0 0 / nop / func g 0 0 / handler a a a 0 / a: / nop / func h 0 0 / load 0", 4, api.ErrIndex},
		{"func f 0 0 / a: / nop / b: / handler a b a 0 / handler a a a 0 / nop / ext 7", 8, api.ErrOp},
		// instructions
		{"func f 0 0 / Nop", 2, api.ErrOp},
		{"func f 0 0 / real 1", 2, api.ErrOp},
		{"func f 0 0 / none 1 2 3", 2, api.ErrOp},
		{"func f 0 0 / nop 0", 2, api.ErrLong},
		{"func f 0 0 / int", 2, api.ErrShort},
		{"func f 0 0 / int x y", 2, api.ErrLong},
		{"func f 0 0 / int x", 2, api.ErrText},
		{"func f 0 0 / int -9223372036854775808", 0, api.OK},
		{"func f 0 0 / int -9223372036854775809", 2, api.ErrMany},
		{"func f 0 0 / jz", 2, api.ErrShort},
		{"func f 0 0 / jnz l l", 2, api.ErrLong},
		{"func f 0 0 / l: / jump 0", 3, api.ErrLost},
		{"func f 0 0 / nop / jump l / func g / load 0 / l:", 4, api.ErrLost},
		{"func f 0 0 / ext 24", 2, api.ErrOp},
		{"func f 0 0 / nop / chan 65", 3, api.ErrOp},
		{"func f 0 1 / load 0 / store 1", 3, api.ErrIndex},
		{"func f 0 0 / load -1", 2, api.ErrOp},
		{"const real 1 / func f 0 0 / const 0 / const 1", 4, api.ErrIndex},
		{"const real 1 / const text \"\" / func f 0 0 / getf 1 / delf 0", 5, api.ErrIndex},
		{"func f 0 0 / jnz l / l:", 2, api.ErrIndex},
		{"func f 0 0 / nop / func g 0 0 / nop / jz l / l:", 5, api.ErrIndex},
	} {
		text := lines(c.text)
		if p, n, e := Parse(text); n != c.line || e != c.err || e != api.OK && len(p.Funcs)+len(p.Consts) > 0 {
			t.Errorf("%q: line %d, %v", c.text, n, e)
		}
		asTold(t, text)
	}
}

// P11.1: where two functions have the name, it is the first; but that there are two is wrong.
func TestTwoOfOneName(t *testing.T) {
	var s source
	s.first = map[string]int{}
	for _, line := range []string{"func f 0 0", "func g", "func g 0 0", "func g 0 0"} {
		s.line++
		if err := s.read(line); err != nil {
			t.Fatal(line, err)
		}
	}
	if n, err := s.settle(); n != 0 || err != nil {
		t.Fatal(n, err)
	}
	if p := s.program(); p.Funcs[0].Code[0] != (api.Instr{Op: api.OpFunc, A: 1}) {
		t.Error(p)
	}
}

// P11.1: all texts of a few lines out of those that matter.
func TestFewLines(t *testing.T) {
	some := []string{"", "const real 1", "const text \"a\"", "func f 0 0", "func g 0 1", "func g", "l:", "m:", "jump l", "jz m", "nop", "load 0", "const 0", "getf 0", "handler l m l 0", "ext 8 # \"", "ext 7", "\"", "nop 1"}
	var all func(text string, left int)
	seen := map[api.Errno]int{}
	all = func(text string, left int) {
		seen[asTold(t, text)]++
		if left == 0 {
			return
		}
		for _, line := range some {
			all(text+"\n"+line, left-1)
		}
	}
	for _, line := range some {
		all(line, 2)
		all("func f 0 0\n"+line, 3)
	}
	for _, e := range []api.Errno{api.OK, api.ErrShort, api.ErrLong, api.ErrForm, api.ErrText, api.ErrOp, api.ErrIndex, api.ErrLost, api.ErrTwice} {
		if seen[e] == 0 {
			t.Error("never", e)
		}
	}
}

// P11.1: all short lines out of bytes that matter are cut into the words that the chapter says.
func TestWords(t *testing.T) {
	var all func(line []byte, left int)
	all = func(line []byte, left int) {
		words, ok := wordsOf(string(line))
		want, right := cut(line)
		if ok != right || !slices.Equal(words, want) {
			t.Fatalf("%q: %q %v and not %q %v", line, words, ok, want, right)
		}
		if left == 0 {
			return
		}
		for _, c := range []byte("\" \\#a\t\r\xc3\xa9") {
			all(append(line, c), left-1)
		}
	}
	all(nil, 6)
	for c := range 256 {
		all([]byte{'a', byte(c), 'b'}, 0)
		all([]byte{byte(c), '"', 'b', '"', byte(c)}, 0)
		all([]byte{'"', byte(c), '"'}, 0)
		all([]byte{'"', '\\', byte(c), '"', ' ', 'a'}, 0)
	}
}

// P11.1: texts of programs, as they are and more and more spoilt.
func TestSpoilt(t *testing.T) {
	r := rand.New(rand.NewSource(11))
	seen := map[api.Errno]int{}
	for range 6000 {
		text := someText(r, someProgram(r))
		seen[asTold(t, text)]++
		for range 1 + r.Intn(4) {
			text = spoilt(r, text)
			seen[asTold(t, text)]++
		}
	}
	for e := api.OK; e <= api.ErrTwice; e++ {
		if e != api.ErrHeight && e != api.ErrReach && e != api.ErrProgram && e != api.ErrState && e != api.ErrEnd && seen[e] == 0 {
			t.Error("never", e)
		}
	}
}

// R1: any bytes.
func TestAnyBytes(t *testing.T) {
	r := rand.New(rand.NewSource(1))
	for range 20000 {
		asTold(t, someBytes(r, 40))
		asTold(t, "func f 0 0\n"+someBytes(r, 40))
	}
}
