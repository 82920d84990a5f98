package program

import (
	"math/rand"
	"strings"
	"testing"

	"portage/api"
	"portage/code"
)

// wrong is Check by the chapter's table, line by line: each line is put down when it holds, and the first that was put down counts.
func wrong(p api.Program) (api.Place, api.Errno) {
	type line struct {
		at  api.Place
		err api.Errno
	}
	var lines []line
	say := func(is bool, err api.Errno, fn, pc int) {
		if is {
			lines = append(lines, line{api.Place{Fn: fn, PC: pc}, err})
		}
	}
	say(len(p.Consts) > 512, api.ErrMany, -1, 512)
	for i, c := range p.Consts {
		nan := uint64(c.N)<<1 > 0xffe0000000000000
		say(c.Kind != 3 && c.Kind != 4, api.ErrForm, -1, i)
		say(c.Kind == 3 && (c.Text != "" || nan && uint64(c.N) != oneNaN), api.ErrForm, -1, i)
		say(c.Kind == 4 && c.N != 0, api.ErrForm, -1, i)
		say(c.Kind == 4 && len(c.Text) > 4096, api.ErrMany, -1, i)
		for _, d := range p.Consts[:i] {
			say(c == d, api.ErrTwice, -1, i)
		}
	}
	say(len(p.Funcs) == 0, api.ErrShort, 0, 0)
	say(len(p.Funcs) > 128, api.ErrMany, 128, 0)
	for k, f := range p.Funcs {
		say(f.Name == "" || strings.Trim(f.Name, "abcdefghijklmnopqrstuvwxyzABCDEFGHIJKLMNOPQRSTUVWXYZ0123456789_") != "", api.ErrText, k, 0)
		say(len(f.Name) > 32, api.ErrMany, k, 0)
		for _, g := range p.Funcs[:k] {
			say(f.Name == g.Name, api.ErrTwice, k, 0)
		}
		say(f.Params < 0 || f.Locals < f.Params || k == 0 && f.Params != 0, api.ErrArg, k, 0)
		say(f.Locals > 64, api.ErrMany, k, 0)
		say(len(f.Code) == 0, api.ErrShort, k, 0)
		say(len(f.Code) > 2000, api.ErrMany, k, 2000)
		for pc, i := range f.Code {
			if err := code.Check(i); err != api.OK {
				say(true, err, k, pc)
				continue
			}
			name, _ := code.Name(i.Op)
			switch name {
			case "jump", "jz", "jnz":
				say(int(i.A) >= len(f.Code), api.ErrIndex, k, pc)
			case "load", "store":
				say(int(i.A) >= f.Locals, api.ErrIndex, k, pc)
			case "const":
				say(int(i.A) >= len(p.Consts), api.ErrIndex, k, pc)
			case "func":
				say(int(i.A) >= len(p.Funcs), api.ErrIndex, k, pc)
			case "getf", "setf", "hasf", "delf":
				say(int(i.A) >= len(p.Consts) || p.Consts[i.A].Kind != 4, api.ErrIndex, k, pc)
			}
		}
		say(len(f.Handlers) > 32, api.ErrMany, k, 32)
		for h, x := range f.Handlers {
			n := len(f.Code)
			say(x.From < 0 || x.From >= x.To || x.To > n || x.Target < 0 || x.Target >= n || x.Height < 0 || x.Height >= 64, api.ErrIndex, k, h)
		}
	}
	if len(lines) == 0 {
		return api.Place{}, api.OK
	}
	return lines[0].at, lines[0].err
}

// spoil changes one thing of a program, which may make it wrong.
func spoil(r *rand.Rand, p *api.Program) {
	if len(p.Funcs) == 0 {
		return
	}
	pick := func(l ...int) int { return l[r.Intn(len(l))] }
	f := &p.Funcs[r.Intn(len(p.Funcs))]
	if len(p.Consts) > 0 {
		c := &p.Consts[r.Intn(len(p.Consts))]
		switch r.Intn(12) {
		case 0:
			c.Kind = pick(-1, 0, 2, 3, 4, 5, 259)
		case 1:
			c.N = int64([]uint64{0, 1, oneNaN, oneNaN + 1, oneNaN - 1, 1 << 63, 0x7ff0000000000000, 0xfff8000000000000, 0xfff0000000000000}[r.Intn(9)])
		case 2:
			c.Text = strings.Repeat("x", pick(0, 1, 4095, 4096, 4097))
		case 3:
			*c = p.Consts[r.Intn(len(p.Consts))]
		}
	}
	if len(f.Code) > 0 {
		i := &f.Code[r.Intn(len(f.Code))]
		switch r.Intn(8) {
		case 0:
			i.Op = pick(-1, 5, 6, 10, 11, 40, 41, 42, 53, 54, 55, 56, 66, 67, 300)
		case 1:
			i.A = int64(pick(-1, 0, 1, 2, 3, 4, 5, 6, 7, 8, 63, 64, 127, 128, 511, 512, 1<<62))
		}
	}
	if len(f.Handlers) > 0 {
		h := &f.Handlers[r.Intn(len(f.Handlers))]
		field := []*int{&h.From, &h.To, &h.Target, &h.Height}[r.Intn(4)]
		if r.Intn(8) == 0 {
			*field = pick(-1, 0, 1, 2, 3, 7, 8, 9, 63, 64, 1<<62)
		}
	}
	switch r.Intn(24) {
	case 0:
		f.Name = []string{"", "_", "a b", "a-b", "`", "{", "@", "[", "/", ":", "\x80", "é", strings.Repeat("m", 32), strings.Repeat("m", 33), strings.Repeat("?", 33)}[r.Intn(15)]
	case 1:
		f.Name = p.Funcs[r.Intn(len(p.Funcs))].Name
	case 2:
		f.Params = pick(-1, 0, 1, 2, 64, 65)
	case 3:
		f.Locals = pick(-1, 0, 1, 2, 64, 65)
	case 4:
		f.Code = f.Code[:r.Intn(len(f.Code)+1)]
	case 5:
		f.Code = make([]api.Instr, pick(1999, 2000, 2001))
	case 6:
		f.Handlers = make([]api.Handler, pick(31, 32, 33))
		for h := range f.Handlers {
			f.Handlers[h].To = 1
		}
	case 7:
		p.Funcs = p.Funcs[:r.Intn(len(p.Funcs)+1)]
	case 8:
		p.Consts = p.Consts[:r.Intn(len(p.Consts)+1)]
	}
}

// P8.1, against the table, at programs of which up to four things were changed.
func TestCheckAgainstTheTable(t *testing.T) {
	r := rand.New(rand.NewSource(81))
	seen := map[api.Errno]int{}
	for range 200000 {
		p := someProgram(r)
		for range r.Intn(5) {
			spoil(r, &p)
		}
		at, err := Check(p)
		wantAt, want := wrong(p)
		if at != wantAt || err != want {
			t.Fatalf("%v: %v %v, not %v %v", p, at, err, wantAt, want)
		}
		seen[err]++
	}
	for _, err := range []api.Errno{api.OK, api.ErrArg, api.ErrShort, api.ErrForm, api.ErrMany, api.ErrText, api.ErrOp, api.ErrIndex, api.ErrTwice} {
		if seen[err] < 500 {
			t.Error(err, "came only", seen[err], "times")
		}
	}
}
