package asm

import (
	"math"
	"math/rand"
	"reflect"
	"slices"
	"strconv"
	"strings"
	"testing"

	"portage/api"
	"portage/code"
	"portage/decimal"
)

// lines is a text out of lines parted by /, as the chapter's examples write them.
func lines(s string) string { return strings.ReplaceAll(s, " / ", "\n") }

// alike tells whether two programs are the same, where no list and an empty one are.
func alike(p, q api.Program) bool {
	same := slices.Equal(p.Consts, q.Consts) && len(p.Funcs) == len(q.Funcs)
	for k := 0; same && k < len(p.Funcs); k++ {
		f, g := p.Funcs[k], q.Funcs[k]
		same = f.Name == g.Name && f.Params == g.Params && f.Locals == g.Locals &&
			slices.Equal(f.Code, g.Code) && slices.Equal(f.Handlers, g.Handlers)
	}
	return same
}

// asTold asks that Parse of a text is what the chapter's words say.
func asTold(t *testing.T, text string) api.Errno {
	t.Helper()
	p, n, e := Parse(text)
	q, line, err := told(text)
	if n != line || e != err || !alike(p, q) {
		t.Fatalf("%q is line %d, %v, %v, and not line %d, %v, %v", text, n, e, p, line, err, q)
	}
	if e != api.OK && !reflect.DeepEqual(p, api.Program{}) {
		t.Fatalf("%q: a program beside %v", text, e)
	}
	return e
}

// someBytes is a text of bytes among which those that are written in another way are many.
func someBytes(r *rand.Rand, most int) string {
	b := make([]byte, r.Intn(most+1))
	for i := range b {
		b[i] = byte(r.Intn(256))
		if r.Intn(2) == 0 {
			b[i] = "\"\\\n\r\t #nx07fF:\x00\x7f\x80\xff~é"[r.Intn(20)]
		}
	}
	return string(b)
}

// someConsts are right constants, no two alike.
func someConsts(r *rand.Rand) []api.Const {
	var l []api.Const
	for range r.Intn(6) {
		c := api.Const{Kind: api.Text, Text: someBytes(r, 12)}
		if r.Intn(2) == 0 {
			c = api.Const{Kind: api.Real, N: int64(r.Uint64())}
			if x := math.Float64frombits(uint64(c.N)); x != x {
				c.N = 0x7ff8000000000000
			}
		}
		if !slices.Contains(l, c) {
			l = append(l, c)
		}
	}
	return l
}

// someOperand is an operand that is right in a function; false: there is none.
func someOperand(r *rand.Rand, p api.Program, k, op int) (int64, bool) {
	kind, _ := code.Operand(op)
	n := map[int]int{code.Place: len(p.Funcs[k].Code), code.Local: p.Funcs[k].Locals, code.Consts: len(p.Consts),
		code.Funcs: len(p.Funcs), code.Count: api.MaxHeight, code.Width: 3, code.Room: api.MaxCap, code.Plain: 1, code.Number: 1}[kind]
	if n == 0 {
		return 0, false
	}
	a := int64(r.Intn(n))
	switch kind {
	case code.Number:
		return int64(r.Uint64()) >> r.Intn(64), true
	case code.Width:
		return 8 << a, true
	case code.Room:
		return 1 + a, true
	case code.Consts:
		return a, op == api.OpConst || p.Consts[a].Kind == api.Text
	}
	return a, true
}

// someProgram is a well-formed program.
func someProgram(r *rand.Rand) api.Program {
	p := api.Program{Consts: someConsts(r), Funcs: make([]api.Function, 1+r.Intn(4))}
	for k := range p.Funcs {
		f := &p.Funcs[k]
		f.Name = []string{"", "func", "handler", "const", "real", "_", "0"}[r.Intn(7)] + "f" + strconv.Itoa(k)
		f.Locals = r.Intn(4)
		if k > 0 {
			f.Params = r.Intn(f.Locals + 1)
		}
		f.Code = make([]api.Instr, 1+r.Intn(9))
		n := len(f.Code)
		for pc := range f.Code {
			op := r.Intn(api.Ops)
			if a, ok := someOperand(r, p, k, op); ok {
				f.Code[pc] = api.Instr{Op: op, A: a}
			}
		}
		for range r.Intn(3) {
			from := r.Intn(n)
			f.Handlers = append(f.Handlers, api.Handler{From: from, To: from + 1 + r.Intn(n-from), Target: r.Intn(n), Height: r.Intn(api.MaxHeight)})
		}
	}
	return p
}

// writer writes a text of a program in one of many ways.
type writer struct {
	r    *rand.Rand
	text strings.Builder
}

// gap is one blank or more.
func (w *writer) gap() string {
	return strings.Repeat([]string{" ", "\t", "\r", " \t\r"}[w.r.Intn(4)], 1+w.r.Intn(2))
}

// maybe is a piece, or nothing.
func (w *writer) maybe(s string) string {
	if w.r.Intn(3) == 0 {
		return s
	}
	return ""
}

// line writes a line of words, and lines without words about it.
func (w *writer) line(words ...string) {
	for w.r.Intn(6) == 0 {
		w.text.WriteString(w.maybe(w.gap()) + w.maybe("#"+strings.ReplaceAll(someBytes(w.r, 9), "\n", "/")) + "\n")
	}
	w.text.WriteString(w.maybe(w.gap()))
	for i, word := range words {
		if i > 0 {
			w.text.WriteString(w.gap())
		}
		w.text.WriteString(word)
	}
	w.text.WriteString(w.maybe(w.gap() + w.maybe("# \"no word")))
	w.text.WriteByte('\n')
}

// number is a whole number as it may be written.
func (w *writer) number(n int64) string {
	s := decimal.Int(n)
	if n >= 0 {
		return w.maybe("+") + w.maybe("00") + s
	}
	return "-" + w.maybe("0") + s[1:]
}

// names are some unlike right names for each place of a function, the place behind the last one too.
func (w *writer) names(n int) [][]string {
	all := make([][]string, n+1)
	for pc := range all {
		for i := range 1 + w.r.Intn(2) {
			all[pc] = append(all[pc], w.maybe("nop")+w.maybe("_")+"L"+strconv.Itoa(pc)+"_"+strconv.Itoa(i))
		}
	}
	return all
}

// function writes a function: its labels and handlers wherever they may stand.
func (w *writer) function(p api.Program, f api.Function) {
	w.line("func", f.Name, w.number(int64(f.Params)), w.number(int64(f.Locals)))
	names := w.names(len(f.Code))
	name := func(pc int) string { return names[pc][w.r.Intn(len(names[pc]))] }
	held := f.Handlers
	handler := func() {
		h := held[0]
		held = held[1:]
		w.line("handler", name(h.From), name(h.To), name(h.Target), w.number(int64(h.Height)))
	}
	for pc := range len(f.Code) + 1 {
		for _, l := range names[pc] {
			w.line(l + ":")
			if len(held) > 0 && w.r.Intn(6) == 0 {
				handler()
			}
		}
		if pc < len(f.Code) {
			w.instr(p, f.Code[pc], name)
		}
	}
	for len(held) > 0 {
		handler()
	}
}

// instr writes an instruction.
func (w *writer) instr(p api.Program, i api.Instr, name func(pc int) string) {
	op, _ := code.Name(i.Op)
	switch kind, _ := code.Operand(i.Op); kind {
	case code.Plain:
		w.line(op)
	case code.Place:
		w.line(op, name(int(i.A)))
	case code.Funcs:
		w.line(op, p.Funcs[i.A].Name)
	default:
		w.line(op, w.number(i.A))
	}
}

// someText is one of the texts that mean a program.
func someText(r *rand.Rand, p api.Program) string {
	w := &writer{r: r}
	for _, c := range p.Consts {
		if c.Kind == api.Real {
			w.line("const", "real", decimal.Real(uint64(c.N)))
		} else {
			w.line("const", "text", someQuoted(r, c.Text))
		}
	}
	for _, f := range p.Funcs {
		w.function(p, f)
	}
	return strings.TrimSuffix(w.text.String(), w.maybe("\n"))
}

// someQuoted is a text in quotes, written in one of the ways that are read.
func someQuoted(r *rand.Rand, s string) string {
	var b strings.Builder
	for i := range len(s) {
		c := s[i]
		q := Quote(s[i : i+1])
		switch k := r.Intn(4); {
		case k == 0:
			const digits = "0123456789ABCDEF"
			b.WriteString("\\x" + string(digits[c>>4]) + string(digits[c&15]))
		case k == 1 && c != '"' && c != '\\' && c != '\n':
			b.WriteByte(c)
		default:
			b.WriteString(q[1 : len(q)-1])
		}
	}
	return "\"" + b.String() + "\""
}

// words that matter somewhere.
func pool() []string {
	return []string{"const", "real", "text", "func", "handler", "f0", "f1", "L0_0", "L0_0:", "L1_0:", "L2_0", "nop", "jump", "jz", "int", "load", "getf", "ext", "chan", "call",
		"0", "1", "-1", "64", "65", "x", ":", "::", "a-b:", "é:", strings.Repeat("l", 32) + ":", strings.Repeat("l", 33) + ":", strings.Repeat("f", 33),
		"9223372036854775807", "9223372036854775808", "0.5", "nan", "\"\"", "\"a\"", "\"a", "\"\\q\"", "a\"b", "#", "#x", "a#", "\"a\"b", "Nop", "const:", "func:"}
}

// spoilt is a text with one thing changed.
func spoilt(r *rand.Rand, text string) string {
	l := strings.Split(text, "\n")
	at, to := r.Intn(len(l)), r.Intn(len(l))
	switch r.Intn(8) {
	case 0:
		l = slices.Delete(l, at, at+1)
	case 1:
		l[at], l[to] = l[to], l[at]
	case 2:
		l = slices.Insert(l, to, l[at])
	case 3:
		return spoiltByte(r, text)
	default:
		l[at] = spoiltLine(r, l[at])
	}
	return strings.Join(l, "\n")
}

// spoiltLine is a line with a word more, fewer or another.
func spoiltLine(r *rand.Rand, line string) string {
	words := strings.Fields(line)
	at := r.Intn(len(words) + 1)
	word := pool()[r.Intn(len(pool()))]
	switch {
	case r.Intn(3) == 0 || at == len(words):
		words = slices.Insert(words, at, word)
	case r.Intn(2) == 0:
		words[at] = word
	default:
		words = slices.Delete(words, at, at+1)
	}
	return strings.Join(words, " ")
}

// spoiltByte is a text with a byte more, fewer or another.
func spoiltByte(r *rand.Rand, text string) string {
	if text == "" {
		return "\""
	}
	at := r.Intn(len(text))
	c := string("\"\\ \t\r\n#:a0-\x80\xff"[r.Intn(13)])
	return text[:at] + []string{"", c, c + text[at:at+1]}[r.Intn(3)] + text[at+1:]
}
