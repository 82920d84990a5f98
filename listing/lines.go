package listing

import (
	"strings"

	"portage/decimal"
)

// inside stands ahead of a line that belongs to the one above it.
const inside = "  "

// text is a listing as far as its lines were put down.
type text struct {
	strings.Builder
}

// add puts a line down, out of its pieces.
func (t *text) add(pieces ...string) {
	for _, s := range pieces {
		t.WriteString(s)
	}
	t.WriteByte('\n')
}

// line is a line of these words.
func line(words ...string) string { return strings.Join(words, " ") }

// number is the word of a number.
func number(n int) string { return decimal.Int(int64(n)) }

// label is the label of a place.
func label(pc int) string { return "L" + number(pc) }
