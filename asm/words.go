package asm

import "portage/api"

// Where in a line the next rune lies.
const (
	between = iota // ahead of a word
	plain          // in a word
	quoted         // in a word in quotes
	slashed        // right behind a backslash in such a word
	closed         // right behind such a word
)

// isBlank tells whether a rune parts words.
func isBlank(r rune) bool { return r == ' ' || r == '\t' || r == '\r' }

// wordsOf are the words of a line; false: the line is broken. All that matters in it are runes of one byte, so that bytes that are no UTF-8 do no harm.
func wordsOf(line string) ([]string, bool) {
	var words []string
	state, begin := between, 0
	for at, r := range line {
		switch state {
		case between:
			if r == '#' {
				return words, true
			}
			state, begin = opened(r), at
		case quoted:
			state = within(r)
		case slashed:
			state = quoted
		case closed:
			if !isBlank(r) {
				return nil, false
			}
			fallthrough
		case plain:
			if isBlank(r) {
				words = append(words, line[begin:at])
				state = between
			}
		}
	}
	switch state {
	case quoted, slashed:
		return nil, false
	case plain, closed:
		words = append(words, line[begin:])
	}
	return words, true
}

// opened is what a rune begins between two words.
func opened(r rune) int {
	switch {
	case isBlank(r):
		return between
	case r == '"':
		return quoted
	}
	return plain
}

// within is where the rune behind this one of a word in quotes lies.
func within(r rune) int {
	switch r {
	case '\\':
		return slashed
	case '"':
		return closed
	}
	return quoted
}

// rightName tells whether a label may have this name, which is what functions may have too.
func rightName(name string) bool {
	for _, r := range name {
		if !('a' <= r && r <= 'z' || 'A' <= r && r <= 'Z' || '0' <= r && r <= '9' || r == '_') {
			return false
		}
	}
	return 0 < len(name) && len(name) <= api.MaxName
}
