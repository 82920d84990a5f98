package listing

import (
	"math/rand"
	"slices"
	"strings"
	"testing"

	"portage/api"
	"portage/asm"
)

// P12.4: a listing is read back as its program, and no two unlike programs have the same.
func TestThereAndBack(t *testing.T) {
	r := rand.New(rand.NewSource(4))
	owner := map[string]api.Program{}
	for range 20000 {
		p := someProgram(r)
		s, err := Program(p)
		if err != api.OK {
			t.Fatal(p, err)
		}
		q, line, err := asm.Parse(s)
		if line != 0 || err != api.OK || !alike(p, q) {
			t.Fatalf("%q is line %d, %v, %v, and not %v", s, line, err, q, p)
		}
		if q, known := owner[s]; known && !alike(p, q) {
			t.Fatal(p, "and", q, "have the same listing")
		}
		owner[s] = p
	}
}

// respelt is the same program in other words: other labels, blanks, comments, labels that nothing names, handlers elsewhere in their function.
func respelt(r *rand.Rand, s string) string {
	var l []string
	begun := false
	for n, line := range strings.Split(strings.TrimSuffix(s, "\n"), "\n") {
		for r.Intn(5) == 0 {
			l = append(l, []string{"", "\t", "# none", "  #\""}[r.Intn(4)])
		}
		if begun && r.Intn(6) == 0 {
			l = append(l, "free"+number(n)+":")
		}
		begun = begun || strings.HasPrefix(line, "func")
		if !strings.HasPrefix(line, "const text") {
			line = strings.ReplaceAll(line, " ", []string{" ", "\t", " \r "}[r.Intn(3)]) + []string{"", " ", " # \"no word"}[r.Intn(3)]
		}
		l = append(l, line)
	}
	for at := range l {
		words := strings.Fields(l[at])
		if len(words) > 0 && words[0] == "handler" && !strings.HasPrefix(l[at-1], "func") && !strings.Contains(l[at-1], "handler") {
			l[at-1], l[at] = l[at], l[at-1]
		}
	}
	return strings.Join(l, "\n")
}

// mixed is a text with some lines left out, twice there or in each other's place.
func mixed(r *rand.Rand, s string) string {
	l := strings.Split(s, "\n")
	for range 1 + r.Intn(3) {
		at, to := r.Intn(len(l)), r.Intn(len(l))
		switch r.Intn(3) {
		case 0:
			l[at], l[to] = l[to], l[at]
		case 1:
			l = slices.Insert(l, to, l[at])
		default:
			l = slices.Delete(l, at, min(at+1, len(l)-1))
		}
	}
	return strings.Join(l, "\n")
}

// P12.5: what the assembler reads is listed, as the same program, and listed again it is the same text.
func TestListedAgain(t *testing.T) {
	r := rand.New(rand.NewSource(5))
	read := 0
	for range 20000 {
		p := someProgram(r)
		first, _ := Program(p)
		text := respelt(r, first)
		if q, line, err := asm.Parse(text); err != api.OK || !alike(p, q) {
			t.Fatalf("%q is line %d, %v", text, line, err)
		}
		if r.Intn(2) == 0 {
			text = mixed(r, text)
		}
		q, _, err := asm.Parse(text)
		if err != api.OK {
			continue
		}
		read++
		s, err := Program(q)
		if err != api.OK {
			t.Fatalf("%q is read, and listed with %v", text, err)
		}
		again, line, err := asm.Parse(s)
		if line != 0 || err != api.OK || !alike(q, again) {
			t.Fatalf("%q became %q", text, s)
		}
		if twice, err := Program(again); twice != s || err != api.OK {
			t.Fatalf("%q became %q", s, twice)
		}
		if alike(p, q) != (s == first) {
			t.Fatalf("%q and %q", first, s)
		}
	}
	if read < 11000 {
		t.Error("read", read)
	}
}

// P12.5: a text that the assembler reads may have a listing that is too long.
func TestReadButTooLong(t *testing.T) {
	var b strings.Builder
	for k := range 300 {
		b.WriteString("const text \"" + number(k) + strings.Repeat("\xff", 4090) + "\"\n")
	}
	b.WriteString("func main 0 0\nnop")
	p, line, err := asm.Parse(b.String())
	if err != api.OK || len(p.Consts) != 300 {
		t.Fatal(line, err)
	}
	listed(t, "many bytes that are no letters", p, "", api.ErrMany)
	p.Consts = p.Consts[:250]
	if s, err := Program(p); err != api.OK || s != toldProgram(p) {
		t.Error(len(s), err)
	}
}

// P12.6: register code is read back from its text, so that no two unlike pieces have the same.
func TestCodeAndBack(t *testing.T) {
	r := rand.New(rand.NewSource(6))
	for range 20000 {
		c := someCode(r)
		s := Code(c)
		if d := readCode(s); !sameCode(c, d) {
			t.Fatalf("%q is %v, and not %v", s, d, c)
		}
	}
}

// P12.6: with one thing changed or moved into a list beside it, the text is another.
func TestCodeUnlike(t *testing.T) {
	r := rand.New(rand.NewSource(66))
	alikes := 0
	for range 40000 {
		c := someCode(r)
		d := copiedCode(c)
		changeCode(r, &d)
		if same := sameCode(c, d); same != (Code(c) == Code(d)) {
			t.Fatalf("%v and %v: %q and %q", c, d, Code(c), Code(d))
		} else if same {
			alikes++
		}
	}
	if alikes > 20000 {
		t.Error("alike", alikes)
	}
}

// changeCode changes one thing, if there is such a thing.
func changeCode(r *rand.Rand, c *api.Code) {
	if len(c.Blocks) == 0 {
		c.Fn, c.Regs = c.Regs, c.Fn
		return
	}
	b := &c.Blocks[r.Intn(len(c.Blocks))]
	switch k := r.Intn(6); {
	case k == 0:
		b.Next = append([]int{b.PC}, b.Next...)
	case k == 1:
		last := &c.Blocks[len(c.Blocks)-1]
		b.Ins, last.Ins = last.Ins, b.Ins
	case k == 2:
		c.Blocks = append(c.Blocks, api.Block{})
	case len(b.Ins) > 0:
		changeIns(r, &b.Ins[r.Intn(len(b.Ins))])
	}
}

// changeIns changes one thing of an instruction, if there is such a thing.
func changeIns(r *rand.Rand, i *api.RIns) {
	switch k := r.Intn(9); {
	case k == 0:
		i.Op = someInt(r)
	case k == 1:
		i.Code = someInt(r)
	case k == 2:
		i.Dst, i.PC = i.PC, i.Dst
	case k == 3:
		i.N, i.Need = int64(i.Need), int(i.N)
	case k == 4 && len(i.Exit) > 0:
		i.Args, i.Exit[0].Slots = i.Exit[0].Slots, i.Args
	case k == 5 && len(i.Exit) > 1:
		i.Exit[0].Slots = slices.Concat(i.Exit[0].Slots, i.Exit[1].Slots)
		i.Exit = slices.Delete(i.Exit, 1, 2)
	case k == 6:
		i.Exit = append(i.Exit, api.Shape{})
	case len(i.Args) > 0:
		o := &i.Args[r.Intn(len(i.Args))]
		if r.Intn(2) == 0 {
			o.Kind = r.Intn(9) - 1
		} else {
			o.N ^= 1 << r.Intn(64)
		}
	}
}

// P12.6: all operands of few kinds and numbers: no two words alike.
func TestWordsUnlike(t *testing.T) {
	owner := map[string]api.Opnd{}
	numbers := []int64{0, 1, -1, 2, 3, 4, 5, 6, 10, 11, 12, 100, -1 << 63, 1<<63 - 1, 0x7ff0000000000000, 0x7ff0000000000001, 0x7ff8000000000000, 0x7ff8000000000001, -1 << 51, -1 << 52, 0x3ff0000000000000, 0x4000000000000000, 0x4024000000000000}
	for kind := -20; kind < 20; kind++ {
		for _, n := range numbers {
			o := api.Opnd{Kind: kind, N: n}
			s := Code(block(0, nil, api.RIns{Args: []api.Opnd{o}}))
			if other, known := owner[s]; known {
				t.Errorf("%v and %v: %q", other, o, s)
			}
			owner[s] = o
		}
	}
}
