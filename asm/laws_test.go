package asm

import (
	"math/rand"
	"slices"
	"strings"
	"testing"

	"portage/api"
	"portage/program"
)

// P11.5: what is answered is well-formed. P11.6: every well-formed program is meant by its texts, whatever blanks, comments and names they have.
func TestMeant(t *testing.T) {
	r := rand.New(rand.NewSource(6))
	for range 6000 {
		p := someProgram(r)
		if at, e := program.Check(p); e != api.OK {
			t.Fatal("not well-formed", at, e)
		}
		text := someText(r, p)
		q, n, e := Parse(text)
		if n != 0 || e != api.OK || !alike(p, q) {
			t.Fatalf("%q is line %d, %v, %v and not %v", text, n, e, q, p)
		}
		if at, e := program.Check(q); e != api.OK {
			t.Fatal(at, e)
		}
	}
}

// P11.5: also of spoilt texts that are still taken.
func TestStillMeant(t *testing.T) {
	r := rand.New(rand.NewSource(5))
	taken := 0
	for range 10000 {
		p, _, e := Parse(spoilt(r, someText(r, someProgram(r))))
		if e != api.OK {
			continue
		}
		taken++
		if at, e := program.Check(p); e != api.OK {
			t.Fatal(at, e)
		}
	}
	if taken < 100 {
		t.Error("taken", taken)
	}
}

// P11.7: a line without words between two lines, ahead of the first, behind the last one.
func TestLinesWithoutWords(t *testing.T) {
	r := rand.New(rand.NewSource(7))
	for range 3000 {
		text := someText(r, someProgram(r))
		for range r.Intn(3) {
			text = spoilt(r, text)
		}
		l := strings.Split(text, "\n")
		at := r.Intn(len(l) + 1)
		none := []string{"", " ", "\t\r ", "#", " # a \"", "#\xff", "##"}[r.Intn(7)]
		p, n, e := Parse(text)
		q, line, err := Parse(strings.Join(slices.Insert(l, at, none), "\n"))
		if n > at {
			n++
		}
		if line != n || err != e || !alike(p, q) {
			t.Fatalf("%q with %q ahead of line %d: %d, %v and not %d, %v", text, none, at+1, line, err, n, e)
		}
	}
}

// R5: what was asked ahead of it makes no difference.
func TestSameAgain(t *testing.T) {
	r := rand.New(rand.NewSource(8))
	var texts []string
	for range 300 {
		texts = append(texts, spoilt(r, someText(r, someProgram(r))))
	}
	type answer struct {
		p api.Program
		n int
		e api.Errno
	}
	var first []answer
	for _, text := range texts {
		p, n, e := Parse(text)
		first = append(first, answer{p, n, e})
	}
	for i, text := range slices.Backward(texts) {
		if p, n, e := Parse(text); n != first[i].n || e != first[i].e || !alike(p, first[i].p) {
			t.Fatalf("%q: %d, %v and then %d, %v", text, first[i].n, first[i].e, n, e)
		}
	}
}
