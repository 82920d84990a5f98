package asm

import (
	"bytes"
	"strings"

	"portage/api"
	"portage/code"
	"portage/decimal"
)

// The chapter's words, slowly: byte by byte, row by row of its table, everything looked up by going through all lines.

const nameBytes = "abcdefghijklmnopqrstuvwxyzABCDEFGHIJKLMNOPQRSTUVWXYZ0123456789_"

// cut is the words of a line; false: it is broken.
func cut(line []byte) ([]string, bool) {
	var words []string
	blank := func(i int) bool { return bytes.IndexByte([]byte{0x20, 0x09, 0x0d}, line[i]) >= 0 }
	for i := 0; i < len(line); {
		from := i
		switch {
		case blank(i):
			i++
			continue
		case line[i] == 0x23:
			return words, true
		case line[i] == 0x22:
			for i++; i < len(line) && line[i] != 0x22; i++ {
				if line[i] == 0x5c {
					i++
				}
			}
			if i >= len(line) {
				return nil, false
			}
			i++
			if i < len(line) && !blank(i) {
				return nil, false
			}
		default:
			for i < len(line) && !blank(i) {
				i++
			}
		}
		words = append(words, string(line[from:i]))
	}
	return words, true
}

// row is a line with words, its number, and which row of the table fits it.
type row struct {
	n     int
	kind  string
	fn    int // the function that has begun
	words []string
}

// needs is the error of a number of words.
func needs(words []string, n int) api.Errno {
	switch {
	case len(words) < n:
		return api.ErrShort
	case len(words) > n:
		return api.ErrLong
	}
	return api.OK
}

// firstOf is the first of several errors.
func firstOf(l ...api.Errno) api.Errno {
	for _, e := range l {
		if e != api.OK {
			return e
		}
	}
	return api.OK
}

// when is an error if something holds.
func when(is bool, e api.Errno) api.Errno {
	if is {
		return e
	}
	return api.OK
}

// word is a word of a line, or none.
func (w row) word(i int) string {
	if i < len(w.words) {
		return w.words[i]
	}
	return ""
}

// parseInt is the error alone.
func parseInt(s string) api.Errno { _, e := decimal.ParseInt(s); return e }

// isName tells whether a name is right.
func isName(s string) bool {
	return len(s) >= 1 && len(s) <= 32 && strings.Trim(s, nameBytes) == ""
}

// kindOf is which row of the table fits.
func (w row) kindOf() string {
	first, second := w.words[0], w.word(1)
	switch {
	case first == "const" && (second == "real" || second == "text"):
		return second
	case first == "func" && len(w.words) != 2:
		return "head"
	case w.fn < 0:
		return "none"
	case first[len(first)-1] == ':':
		return "label"
	case first == "handler":
		return "handler"
	}
	return "instr"
}

// wrong is what the table says of a line; rows are those ahead of it.
func (w row) wrong(rows []row) api.Errno {
	switch w.kind {
	case "real":
		_, e := decimal.ParseReal(w.word(2))
		return firstOf(when(w.fn >= 0, api.ErrForm), needs(w.words, 3), e)
	case "text":
		_, ok := unquoted(w.word(2))
		return firstOf(when(w.fn >= 0, api.ErrForm), needs(w.words, 3), when(!ok, api.ErrText))
	case "head":
		return firstOf(needs(w.words, 4), parseInt(w.word(2)), parseInt(w.word(3)))
	case "none":
		return api.ErrForm
	case "label":
		_, twice := placeOf(rows, w.fn, strings.TrimSuffix(w.words[0], ":"))
		return firstOf(needs(w.words, 1), when(!isName(w.words[0][:len(w.words[0])-1]), api.ErrText), when(twice, api.ErrTwice))
	case "handler":
		return firstOf(needs(w.words, 5), parseInt(w.word(4)))
	}
	op, ok := code.Find(w.words[0])
	if !ok {
		return api.ErrOp
	}
	switch kind, _ := code.Operand(op); kind {
	case code.Plain:
		return needs(w.words, 1)
	case code.Place, code.Funcs:
		return needs(w.words, 2)
	}
	return firstOf(needs(w.words, 2), parseInt(w.word(1)))
}

// placeOf is the place of a label of a function.
func placeOf(rows []row, fn int, name string) (int, bool) {
	pc := 0
	for _, w := range rows {
		if w.fn == fn && w.kind == "instr" {
			pc++
		}
		if w.fn == fn && w.kind == "label" && w.words[0] == name+":" {
			return pc, true
		}
	}
	return 0, false
}

// numberOf is the number of a function.
func numberOf(rows []row, name string) (int, bool) {
	for _, w := range rows {
		if w.kind == "head" && w.words[1] == name {
			return w.fn, true
		}
	}
	return 0, false
}

// resolved is a name's number, in a line.
func resolved(rows []row, w row, i int) (int, bool) {
	if w.words[0] == "func" {
		return numberOf(rows, w.words[i])
	}
	return placeOf(rows, w.fn, w.words[i])
}

// named are the words of a line that are names of labels and functions.
func (w row) named() []int {
	if w.kind == "handler" {
		return []int{1, 2, 3}
	}
	if w.kind == "instr" && (w.words[0] == "jump" || w.words[0] == "jz" || w.words[0] == "jnz" || w.words[0] == "func") {
		return []int{1}
	}
	return nil
}

// told is Parse by the chapter's words.
func told(text string) (api.Program, int, api.Errno) {
	if len(text) > 1<<22 {
		return api.Program{}, 0, api.ErrMany
	}
	var rows []row
	fn := -1
	for i, line := range bytes.Split([]byte(text), []byte{0x0a}) {
		words, ok := cut(line)
		if !ok {
			return api.Program{}, i + 1, api.ErrText
		}
		if len(words) == 0 {
			continue
		}
		w := row{n: i + 1, words: words, fn: fn}
		w.kind = w.kindOf()
		if e := w.wrong(rows); e != api.OK {
			return api.Program{}, w.n, e
		}
		if w.kind == "head" {
			fn++
			w.fn = fn
		}
		rows = append(rows, w)
	}
	for _, w := range rows {
		for _, i := range w.named() {
			if _, ok := resolved(rows, w, i); !ok {
				return api.Program{}, w.n, api.ErrLost
			}
		}
	}
	return finished(rows)
}

// finished is the program of lines that are right, or what chapter 8 says is wrong with it.
func finished(rows []row) (api.Program, int, api.Errno) {
	p := built(rows)
	if n, e := unfit(rows, p); e != api.OK {
		return api.Program{}, n, e
	}
	return p, 0, api.OK
}

// built is the program of lines that are right.
func built(rows []row) api.Program {
	var p api.Program
	num := func(s string) int { n, _ := decimal.ParseInt(s); return int(n) }
	at := func(w row, i int) int { n, _ := resolved(rows, w, i); return n }
	for _, w := range rows {
		switch w.kind {
		case "real":
			n, _ := decimal.ParseReal(w.words[2])
			p.Consts = append(p.Consts, api.Const{Kind: api.Real, N: int64(n)})
		case "text":
			s, _ := unquoted(w.words[2])
			p.Consts = append(p.Consts, api.Const{Kind: api.Text, Text: s})
		case "head":
			p.Funcs = append(p.Funcs, api.Function{Name: w.words[1], Params: num(w.words[2]), Locals: num(w.words[3])})
		case "handler":
			f := &p.Funcs[w.fn]
			f.Handlers = append(f.Handlers, api.Handler{From: at(w, 1), To: at(w, 2), Target: at(w, 3), Height: num(w.words[4])})
		case "instr":
			f := &p.Funcs[w.fn]
			i := api.Instr{}
			i.Op, _ = code.Find(w.words[0])
			if len(w.named()) > 0 {
				i.A = int64(at(w, 1))
			} else if len(w.words) > 1 {
				i.A, _ = decimal.ParseInt(w.words[1])
			}
			f.Code = append(f.Code, i)
		}
	}
	return p
}

// unfit is the line and the error of the first thing of a program that chapter 8 calls wrong.
func unfit(rows []row, p api.Program) (int, api.Errno) {
	consts := linesOf(rows, -1, "real", "text")
	heads := make([]int, len(p.Funcs))
	for k := range heads {
		heads[k] = linesOf(rows, k, "head")[0]
	}
	if len(consts) > 512 {
		return consts[512], api.ErrMany
	}
	for i, c := range p.Consts {
		if len(c.Text) > 4096 {
			return consts[i], api.ErrMany
		}
		for _, d := range p.Consts[:i] {
			if c == d {
				return consts[i], api.ErrTwice
			}
		}
	}
	if len(heads) == 0 {
		return 0, api.ErrShort
	}
	if len(heads) > 128 {
		return heads[128], api.ErrMany
	}
	for k, f := range p.Funcs {
		twice := false
		for _, g := range p.Funcs[:k] {
			twice = twice || f.Name == g.Name
		}
		if e := firstOf(when(strings.Trim(f.Name, nameBytes) != "", api.ErrText), when(len(f.Name) > 32, api.ErrMany),
			when(twice, api.ErrTwice), when(f.Params < 0 || f.Locals < f.Params || k == 0 && f.Params != 0, api.ErrArg),
			when(f.Locals > 64, api.ErrMany), when(len(f.Code) == 0, api.ErrShort)); e != api.OK {
			return heads[k], e
		}
		if n, e := unfitFunc(rows, p, k); e != api.OK {
			return n, e
		}
	}
	return 0, api.OK
}

// unfitFunc is the same of a function's instructions and handlers.
func unfitFunc(rows []row, p api.Program, k int) (int, api.Errno) {
	f := p.Funcs[k]
	lines := linesOf(rows, k, "instr")
	if len(lines) > 2000 {
		return lines[2000], api.ErrMany
	}
	for pc, i := range f.Code {
		if e := code.Check(i); e != api.OK {
			return lines[pc], e
		}
		kind, _ := code.Operand(i.Op)
		lost := kind == code.Place && int(i.A) >= len(f.Code) || kind == code.Local && int(i.A) >= f.Locals ||
			kind == code.Consts && int(i.A) >= len(p.Consts) || kind == code.Funcs && int(i.A) >= len(p.Funcs)
		if lost || i.Op >= api.OpGetf && i.Op <= api.OpDelf && p.Consts[i.A].Kind != api.Text {
			return lines[pc], api.ErrIndex
		}
	}
	lines = linesOf(rows, k, "handler")
	if len(lines) > 32 {
		return lines[32], api.ErrMany
	}
	for h, x := range f.Handlers {
		if x.From >= x.To || x.To > len(f.Code) || x.Target >= len(f.Code) || x.Height < 0 || x.Height >= 64 {
			return lines[h], api.ErrIndex
		}
	}
	return 0, api.OK
}

// linesOf are the numbers of a function's lines of some kinds; function -1: of the lines ahead of all functions.
func linesOf(rows []row, fn int, kinds ...string) []int {
	var l []int
	for _, w := range rows {
		for _, k := range kinds {
			if w.fn == fn && w.kind == k {
				l = append(l, w.n)
			}
		}
	}
	return l
}

// unquoted is Unquote by the chapter's words: the pieces between the quotes, from the left, each as long as it must be.
func unquoted(s string) (string, bool) {
	if len(s) < 2 || !strings.HasPrefix(s, "\x22") || !strings.HasSuffix(s, "\x22") {
		return "", false
	}
	var t []byte
	for in := s[1 : len(s)-1]; len(in) > 0; {
		switch {
		case in[0] == 0x22 || in[0] == 0x0a:
			return "", false
		case in[0] != 0x5c:
			t, in = append(t, in[0]), in[1:]
		case strings.HasPrefix(in, "\x5c\x22"):
			t, in = append(t, 0x22), in[2:]
		case strings.HasPrefix(in, "\x5c\x5c"):
			t, in = append(t, 0x5c), in[2:]
		case strings.HasPrefix(in, "\x5cn"):
			t, in = append(t, 0x0a), in[2:]
		case strings.HasPrefix(in, "\x5cx") && len(in) >= 4 && digit(in[2]) >= 0 && digit(in[3]) >= 0:
			t, in = append(t, byte(16*digit(in[2])+digit(in[3]))), in[4:]
		default:
			return "", false
		}
	}
	return string(t), true
}

// digit is a hexadecimal digit's number, or -1.
func digit(c byte) int {
	if at := strings.IndexByte("0123456789abcdef", c); at >= 0 {
		return at
	}
	return strings.IndexByte("0123456789ABCDEF", c)
}
