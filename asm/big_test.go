package asm

import (
	"strconv"
	"strings"
	"testing"

	"portage/api"
)

// parsed asks what Parse tells of a text.
func parsed(t *testing.T, what, text string, line int, err api.Errno) api.Program {
	t.Helper()
	p, n, e := Parse(text)
	if n != line || e != err || e != api.OK && len(p.Funcs)+len(p.Consts) > 0 {
		t.Errorf("%s: line %d, %v, and not line %d, %v", what, n, e, line, err)
	}
	return p
}

// each is a line for each number below n, which stands for every % in it.
func each(n int, line string) string {
	var b strings.Builder
	for i := range n {
		b.WriteString(strings.ReplaceAll(line, "%", strconv.Itoa(i)) + "\n")
	}
	return b.String()
}

// P11.1: a text of MaxSource bytes, and of a byte more, whatever stands there.
func TestMaxSource(t *testing.T) {
	const short = "func f 0 0\nnop\n#"
	text := short + strings.Repeat("x", api.MaxSource-len(short))
	parsed(t, "a long comment", text, 0, api.OK)
	parsed(t, "and a byte", text+"x", 0, api.ErrMany)
	parsed(t, "wrong, and a byte", "nop\n"+text, 0, api.ErrMany)
	parsed(t, "wrong", "nop\n"+text[:api.MaxSource-4], 1, api.ErrForm)
	parsed(t, "lines without words", strings.Repeat("\n", api.MaxSource), 0, api.ErrShort)
	parsed(t, "and one more", strings.Repeat("\n", api.MaxSource+1), 0, api.ErrMany)
	parsed(t, "the last line", strings.Repeat("\n", api.MaxSource-3)+"nop", api.MaxSource-2, api.ErrForm)
}

// P11.1: as many as there may be, and one more: the line is that of the first one that is too many.
func TestTooMany(t *testing.T) {
	const f, nop = "func f 0 0\n", "nop\n"
	parsed(t, "512 constants", each(512, "const real %")+f+nop, 0, api.OK)
	parsed(t, "513 constants", each(513, "const real %")+f+nop, 513, api.ErrMany)
	parsed(t, "515 constants with gaps, one twice, and no function", each(515, "\nconst real 0"), 1026, api.ErrMany)
	parsed(t, "128 functions", each(128, "func f% 0 0\nfunc f127"), 0, api.OK)
	parsed(t, "129 functions", each(129, "func f% 0 0\nfunc f128"), 257, api.ErrMany)
	parsed(t, "140 functions, the first one without instructions", f+each(139, "func f% 0 0\nnop"), 256, api.ErrMany)
	parsed(t, "2000 instructions", f+strings.Repeat(nop, 2000), 0, api.OK)
	parsed(t, "2001 instructions", f+strings.Repeat(nop, 2001), 2002, api.ErrMany)
	parsed(t, "2005 in the second function", f+nop+"func g 0 0\nl:\n"+strings.Repeat("ext 7\n\n", 2005), 4+4001, api.ErrMany)
	parsed(t, "2000 places", f+each(2000, "l%:\njump l1999"), 0, api.OK)
	parsed(t, "a place behind them", f+each(2000, "jump l")+"l:", 2, api.ErrOp)
	parsed(t, "a place behind one fewer", f+each(1999, "jump l")+"l:", 2, api.ErrIndex)
	const handler = "handler l m l 0\n"
	parsed(t, "32 handlers", f+"l:\nnop\nm:\n"+strings.Repeat(handler, 32), 0, api.OK)
	parsed(t, "33 handlers", f+"l:\nnop\nm:\n"+strings.Repeat(handler, 33), 37, api.ErrMany)
	parsed(t, "40 handlers with a wrong one", f+"l:\nnop\nm:\nhandler m m l 99\n\n"+strings.Repeat(handler, 39), 38, api.ErrMany)
	parsed(t, "40 handlers and a wrong instruction", f+"l:\nnop\nm:\n"+strings.Repeat(handler, 40)+"load 0", 45, api.ErrIndex)
	parsed(t, "33 handlers and 33 instructions", f+"l:\n"+strings.Repeat(nop, 33)+"m:\n"+strings.Repeat(handler, 33), 36+33, api.ErrMany)
}

// P11.1: what is wrong with a line, or names nothing, counts ahead of how many there are.
func TestManyAndWrong(t *testing.T) {
	const f, nop = "func f 0 0\n", "nop\n"
	parsed(t, "too many instructions, and no operation", f+strings.Repeat(nop, 3000)+"x", 3002, api.ErrOp)
	parsed(t, "too many instructions, and a lost label", f+strings.Repeat(nop, 3000)+"jump l", 3002, api.ErrLost)
	parsed(t, "too many constants, and a form", each(600, "const real %")+"x", 601, api.ErrForm)
	parsed(t, "too many functions, and a lost one", each(200, "func f% 0 0")+"func f200", 201, api.ErrLost)
	parsed(t, "too many functions, and the last one named", each(200, "func f% 0 0")+"func f199", 129, api.ErrMany)
}

// R1: the longest texts of each kind end soon: nothing is gone through again for each line.
func TestLongTexts(t *testing.T) {
	for _, c := range []struct {
		what, begin, line string
		at                int
		err               api.Errno
	}{
		{"instructions", "func f 0 0\n", "or\n", 2002, api.ErrMany},
		{"jumps", "func f 0 0\nl:\n", "jz l\n", 2003, api.ErrMany},
		{"names", "func f 0 0\n", "func f\n", 2002, api.ErrMany},
		{"heads", "", "func f 0 0\n", 129, api.ErrMany},
		{"handlers", "func f 0 0\nl:\n", "handler l l l 0\n", 1, api.ErrShort},
		{"constants", "", "const real 1\n", 513, api.ErrMany},
		{"words", "", "a ", 1, api.ErrForm},
		{"quoted words", "", "\"\" ", 1, api.ErrForm},
		{"backslashes", "\"", "\\\\", 1, api.ErrText},
		{"a long text", "const text \"", "\\\\", 1, api.ErrText},
		{"a long number", "func f 0 0\nint ", "0", 0, api.OK},
		{"a long real", "const real ", "0", 1, api.ErrMany},
		{"a long name", "func f 0 0\njump ", "l", 2, api.ErrLost},
		{"a long label", "func f 0 0\n", ":", 2, api.ErrText},
	} {
		text := c.begin + strings.Repeat(c.line, (api.MaxSource-len(c.begin))/len(c.line))
		parsed(t, c.what, text, c.at, c.err)
	}
	parsed(t, "labels", "func f 0 0\n"+each(400000, "l%:"), 1, api.ErrShort)
	parsed(t, "functions", each(200000, "func f% 0 0"), 129, api.ErrMany)
	s := strings.Repeat("\x00\"", api.MaxSource)
	if back, ok := Unquote(Quote(s)); back != s || !ok {
		t.Error("a long text is not read back")
	}
}

// P11.6: the greatest program that a text can hold.
func TestGreatest(t *testing.T) {
	var b strings.Builder
	b.WriteString(each(300, "const text \""+strings.Repeat("a", 4090)+"%\""))
	b.WriteString(each(128, "func f% 0 64\nl%_:\n"+strings.Repeat("jump l%_\n", 1999)+"nop\ne:\n"+strings.Repeat("handler l%_ e l%_ 63\n", 32)))
	p := parsed(t, "a great one", b.String(), 0, api.OK)
	if len(p.Consts) != 300 || len(p.Funcs) != 128 || len(p.Funcs[127].Code) != 2000 || p.Funcs[127].Handlers[31] != (api.Handler{To: 2000, Height: 63}) {
		t.Error(len(p.Consts), len(p.Funcs), b.Len())
	}
}
