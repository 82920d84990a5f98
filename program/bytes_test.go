package program

import (
	"bytes"
	"fmt"
	"math"
	"slices"
	"strings"
	"testing"

	"portage/api"
	"portage/digest"
)

// firstBytes are the chapter's bytes of the first example.
const firstBytes = "PTP\x01" + "\x00" + "\x01" + "\x04main" + "\x00\x00" + "\x02\x01\x2c" + "\x00"

// fullBytes are the bytes of full, put down by hand.
const fullBytes = "PTP\x01" +
	"\x04" + "\x03\x3f\xf8\x00\x00\x00\x00\x00\x00" + "\x04\x02ab" + "\x04\x00" + "\x03\x7f\xf8\x00\x00\x00\x00\x00\x00" +
	"\x03" +
	"\x04main" + "\x00\x02" + "\x0a" + "\x06\x02\x05\x03\x2b\x01\x0b\x01\x28\x00" + "\x02" + "\x00\x05\x04\x3f" + "\x04\x05\x00\x00" +
	"\x03f_1" + "\x01\x03" + "\x04" + "\x04\xd7\x04\x2c" + "\x00" +
	"\x02Z9" + "\x02\x02" + "\x0b" + "\x0a\x01\x35\x01\x18\x20\x2a\x04\x30\x37\x02" + "\x01" + "\x01\x02\x05\x01"

// P8.2, P8.3: bytes that were put down by hand, there and back.
func TestBytes(t *testing.T) {
	for _, c := range []struct {
		p api.Program
		b string
	}{{first(), firstBytes}, {full(), fullBytes}} {
		if b, err := Encode(c.p); string(b) != c.b || err != api.OK {
			t.Errorf("Encode: %x %v, not %x", b, err, c.b)
		}
		if p, err := Decode([]byte(c.b)); !alike(p, c.p) || err != api.OK {
			t.Errorf("Decode: %v %v, not %v", p, err, c.p)
		}
	}
}

// P8.2, P8.4: what is not well-formed has no bytes and no digest.
func TestRefused(t *testing.T) {
	for _, c := range []struct {
		spoil func(p *api.Program)
		err   api.Errno
	}{
		{func(p *api.Program) { p.Funcs = nil }, api.ErrShort},
		{func(p *api.Program) { p.Consts[0].Text = "a" }, api.ErrForm},
		{func(p *api.Program) { p.Consts[2] = p.Consts[1] }, api.ErrTwice},
		{func(p *api.Program) { p.Funcs[1].Name = "-" }, api.ErrText},
		{func(p *api.Program) { p.Funcs[0].Params = 1 }, api.ErrArg},
		{func(p *api.Program) { p.Funcs[1].Locals = 65 }, api.ErrMany},
		{func(p *api.Program) { p.Funcs[2].Code[5].Op = 67 }, api.ErrOp},
		{func(p *api.Program) { p.Funcs[2].Handlers[0].Height = 64 }, api.ErrIndex},
	} {
		p := full()
		c.spoil(&p)
		if b, err := Encode(p); err != c.err || len(b) != 0 {
			t.Errorf("Encode: %x %v, not %v", b, err, c.err)
		}
		if d, err := Digest(p); err != c.err || d != ([32]byte{}) {
			t.Errorf("Digest: %x %v, not %v", d, err, c.err)
		}
	}
}

// longest is a well-formed program of just so many bytes, somewhat below four millions and a half at most: as many functions of the longest code as leave room, and texts that make up for the rest.
func longest(n int) api.Program {
	var p api.Program
	for k := range 120 {
		f := nops(fmt.Sprint("f", k), api.MaxCode)
		for pc := range f.Code {
			f.Code[pc] = ins(api.OpInt, math.MinInt64)
		}
		p.Funcs = append(p.Funcs, f)
	}
	for n-len(written(p)) > 8000 {
		more := min(380, (n-len(written(p))-4000)/4006)
		for range more {
			p.Consts = append(p.Consts, text(fmt.Sprintf("%04000d", len(p.Consts))))
		}
	}
	p.Consts = append(p.Consts, text(strings.Repeat("a", 200)), text(strings.Repeat("b", 3000)))
	rest := n - len(written(p))
	p.Consts[len(p.Consts)-2].Text += strings.Repeat("a", min(rest, 3800))
	p.Consts[len(p.Consts)-1].Text += strings.Repeat("b", rest-min(rest, 3800))
	return p
}

// P8.2, P8.3: a program of MaxProgram bytes, and of a byte more.
func TestMaxProgram(t *testing.T) {
	for _, n := range []int{api.MaxProgram - 1, api.MaxProgram} {
		p := longest(n)
		b, err := Encode(p)
		if len(b) != n || err != api.OK {
			t.Fatal(n, len(b), err)
		}
		if q, err := Decode(b); !alike(p, q) || err != api.OK {
			t.Fatal(n, err)
		}
	}
	p := longest(api.MaxProgram + 1)
	if at, err := Check(p); at != (api.Place{}) || err != api.OK {
		t.Fatal(at, err)
	}
	if b, err := Encode(p); len(b) != 0 || err != api.ErrMany {
		t.Fatal(len(b), err)
	}
	if d, err := Digest(p); d != ([32]byte{}) || err != api.ErrMany {
		t.Fatal(d, err)
	}
	if q, err := Decode(written(p)); !alike(q, api.Program{}) || err != api.ErrMany {
		t.Fatal(err)
	}
}

// P8.3: the number of bytes is asked ahead of all bytes.
func TestDecodeTooLong(t *testing.T) {
	if p, err := Decode(make([]byte, api.MaxProgram+1)); !alike(p, api.Program{}) || err != api.ErrMany {
		t.Error(err)
	}
	if _, err := Decode(make([]byte, api.MaxProgram)); err != api.ErrForm {
		t.Error(err)
	}
	b := append([]byte(firstBytes), make([]byte, api.MaxProgram-len(firstBytes))...)
	if _, err := Decode(b); err != api.ErrLong {
		t.Error(err)
	}
	if _, err := Decode(append(b, 0)); err != api.ErrMany {
		t.Error(err)
	}
}

// P8.3: each thing that can be wrong, at the edges of what is right.
func TestDecode(t *testing.T) {
	const begin = "PTP\x01"
	// a function up to a part of it, and from a part on
	const head, end = begin + "\x00\x01\x01m", "\x00\x00\x01\x00\x00"
	for _, c := range []struct {
		name string
		raw  string
		err  api.Errno
	}{
		{"nothing", "", api.ErrShort},
		{"three bytes", "PTP", api.ErrShort},
		{"three other bytes", "xyz", api.ErrShort},
		{"four other bytes", "PTP\x05", api.ErrForm},
		{"the last example", "PTP\x05" + firstBytes[4:], api.ErrForm},
		{"another first byte", "Q" + firstBytes[1:], api.ErrForm},
		{"four bytes alone", begin, api.ErrShort},
		{"a count in two forms", begin + "\x80\x00", api.ErrForm},
		{"512 constants, and no more", begin + "\x80\x04", api.ErrShort},
		{"513 constants", begin + "\x81\x04", api.ErrMany},
		{"2^64 - 1 constants", begin + "\xff\xff\xff\xff\xff\xff\xff\xff\xff\x01", api.ErrMany},
		{"a constant without a kind", begin + "\x01", api.ErrShort},
		{"a nil", begin + "\x01\x00", api.ErrForm},
		{"an int", begin + "\x01\x02", api.ErrForm},
		{"a func", begin + "\x01\x05" + firstBytes[5:], api.ErrForm},
		{"a kind of 131", begin + "\x01\x83", api.ErrForm},
		{"a real of seven bytes", begin + "\x01\x03\x00\x00\x00\x00\x00\x00\x00", api.ErrShort},
		{"a text without a length", begin + "\x01\x04", api.ErrShort},
		{"a text of one byte, cut", begin + "\x01\x04\x01", api.ErrShort},
		{"a text of 4096 bytes, cut", begin + "\x01\x04\x80\x20", api.ErrShort},
		{"a text of 4097 bytes", begin + "\x01\x04\x81\x20", api.ErrMany},
		{"a text's length in two forms", begin + "\x01\x04\x81\x00", api.ErrForm},
		{"no count of functions", begin + "\x00", api.ErrShort},
		{"128 functions, and no more", begin + "\x00\x80\x01", api.ErrShort},
		{"129 functions", begin + "\x00\x81\x01", api.ErrMany},
		{"functions' count in two forms", begin + "\x00\x80\x00", api.ErrForm},
		{"no function", begin + "\x00\x00", api.ErrShort},
		{"no function, and a byte", begin + "\x00\x00\x00", api.ErrLong},
		{"a name of 32 bytes, cut", begin + "\x00\x01\x20main", api.ErrShort},
		{"a name of 32 bytes", begin + "\x00\x01\x20" + strings.Repeat("n", 32) + end, api.OK},
		{"a name of 33 bytes", begin + "\x00\x01\x21" + strings.Repeat("n", 33) + end, api.ErrMany},
		{"an empty name, and a fault behind it", begin + "\x00\x01\x00\x00\x00\x01\x43\x00", api.ErrOp},
		{"an empty name", begin + "\x00\x01\x00" + end, api.ErrText},
		{"the shortest", head + end, api.OK},
		{"no Params", head, api.ErrShort},
		{"64 Params", head + "\x40\x40\x01\x00\x00", api.ErrArg},
		{"65 Params", head + "\x41\x41\x01\x00\x00", api.ErrMany},
		{"no Locals", head + "\x00", api.ErrShort},
		{"64 Locals", head + "\x00\x40\x01\x00\x00", api.OK},
		{"65 Locals", head + "\x00\x41\x01\x00\x00", api.ErrMany},
		{"Params in two forms", head + "\x80\x00\x00\x01\x00\x00", api.ErrForm},
		{"Locals in two forms", head + "\x00\x80\x00\x01\x00\x00", api.ErrForm},
		{"no count of code", head + "\x00\x00", api.ErrShort},
		{"no code", head + "\x00\x00\x00\x00", api.ErrShort},
		{"22000 bytes of code, cut", head + "\x00\x00\xf0\xab\x01\x43", api.ErrShort},
		{"22001 bytes of code", head + "\x00\x00\xf1\xab\x01\x43", api.ErrMany},
		{"code cut, and a fault in it", head + "\x00\x00\x02\x43", api.ErrShort},
		{"a fault in the code", head + "\x00\x00\x01\x43", api.ErrOp},
		{"an operand missing", head + "\x00\x00\x01\x04\x00", api.ErrShort},
		{"an operand in two forms", head + "\x00\x00\x03\x04\x80\x00\x00", api.ErrForm},
		{"an operand that is not right", head + "\x00\x00\x02\x18\x18\x00", api.ErrOp},
		{"an operand that names nothing", head + "\x00\x00\x02\x28\x01\x00", api.ErrIndex},
		{"2000 instructions", head + "\x00\x00\xd0\x0f" + strings.Repeat("\x00", 2001), api.OK},
		{"2001 instructions", head + "\x00\x00\xd1\x0f" + strings.Repeat("\x00", 2002), api.ErrMany},
		{"no count of handlers", head + "\x00\x00\x01\x00", api.ErrShort},
		{"32 handlers, and no more", head + "\x00\x00\x01\x00\x20", api.ErrShort},
		{"33 handlers", head + "\x00\x00\x01\x00\x21", api.ErrMany},
		{"32 handlers", head + "\x00\x00\x01\x00\x20" + strings.Repeat("\x00\x01\x00\x00", 32), api.OK},
		{"handlers' count in two forms", head + "\x00\x00\x01\x00\x80\x00", api.ErrForm},
		{"From 2000", head + "\x00\x00\x01\x00\x01\xd0\x0f\x01\x00\x00", api.ErrIndex},
		{"From 2001", head + "\x00\x00\x01\x00\x01\xd1\x0f", api.ErrMany},
		{"To 2000", head + "\x00\x00\x01\x00\x01\x00\xd0\x0f\x00\x00", api.ErrIndex},
		{"To 2001", head + "\x00\x00\x01\x00\x01\x00\xd1\x0f", api.ErrMany},
		{"Target 2000", head + "\x00\x00\x01\x00\x01\x00\x01\xd0\x0f\x00", api.ErrIndex},
		{"Target 2001", head + "\x00\x00\x01\x00\x01\x00\x01\xd1\x0f", api.ErrMany},
		{"Height 63", head + "\x00\x00\x01\x00\x01\x00\x01\x00\x3f", api.OK},
		{"Height 64", head + "\x00\x00\x01\x00\x01\x00\x01\x00\x40", api.ErrIndex},
		{"Height 65", head + "\x00\x00\x01\x00\x01\x00\x01\x00\x41", api.ErrMany},
		{"Height in two forms", head + "\x00\x00\x01\x00\x01\x00\x01\x00\x80\x00", api.ErrForm},
		{"a byte left", firstBytes + "\x00", api.ErrLong},
		{"a byte left, and what Check refuses", begin + "\x00\x01\x01-" + end + "\x00", api.ErrLong},
		{"what Check refuses", begin + "\x00\x01\x01-" + end, api.ErrText},
		{"another NaN", begin + "\x01\x03\xff\xf8\x00\x00\x00\x00\x00\x00\x01\x01m" + end, api.ErrForm},
		{"another NaN, and a byte too few", begin + "\x01\x03\xff\xf8\x00\x00\x00\x00\x00\x00\x01\x01m" + end[:4], api.ErrShort},
		{"the same constant twice", begin + "\x02\x04\x01a\x04\x01a\x01\x01m" + end, api.ErrTwice},
		{"the same name twice", begin + "\x00\x02\x01m" + end + "\x01m" + end, api.ErrTwice},
	} {
		p, err := Decode([]byte(c.raw))
		if err != c.err || err != api.OK && !alike(p, api.Program{}) {
			t.Errorf("%s: %v %v, not %v", c.name, p, err, c.err)
		}
		if err == api.OK {
			if b, err := Encode(p); string(b) != c.raw || err != api.OK {
				t.Errorf("%s: comes back as %x %v", c.name, b, err)
			}
		}
	}
}

// P8.3: the longest code that a function can have, whose bytes are just 11 times MaxCode.
func TestLongestCode(t *testing.T) {
	p := first()
	p.Funcs[0] = nops("main", api.MaxCode)
	for pc := range p.Funcs[0].Code {
		p.Funcs[0].Code[pc] = ins(api.OpInt, math.MinInt64)
	}
	b, err := Encode(p)
	if err != api.OK || !bytes.Contains(b, []byte{0xf0, 0xab, 0x01, 4, 255, 255, 255, 255, 255, 255, 255, 255, 255, 1}) {
		t.Fatal(err)
	}
	if q, err := Decode(b); !alike(p, q) || err != api.OK {
		t.Error(err)
	}
}

// P8.4: the digest is that of the bytes, and another one for another program.
func TestDigest(t *testing.T) {
	for _, c := range []struct {
		p api.Program
		b string
	}{{first(), firstBytes}, {full(), fullBytes}} {
		if d, err := Digest(c.p); d != digest.Sum([]byte(c.b)) || err != api.OK {
			t.Errorf("%x %v", d, err)
		}
	}
	p := first()
	p.Funcs[0].Code = slices.Insert(p.Funcs[0].Code, 0, ins(api.OpNop, 0))
	a, _ := Digest(first())
	if b, _ := Digest(p); a == b {
		t.Error("two programs have one digest")
	}
}

// P8.5: the first function of a name, in whatever program.
func TestFind(t *testing.T) {
	p := api.Program{Funcs: []api.Function{{Name: "a"}, {Name: "b"}, {Name: "b", Params: -1}, {Name: ""}, {Name: "B"}, {Name: "\xff"}}}
	for _, c := range []struct {
		name string
		k    int
		ok   bool
	}{{"a", 0, true}, {"b", 1, true}, {"", 3, true}, {"B", 4, true}, {"\xff", 5, true}, {"c", 0, false}, {"aa", 0, false}, {"\xfe", 0, false}} {
		if k, ok := Find(p, c.name); k != c.k || ok != c.ok {
			t.Errorf("%q: %d %v", c.name, k, ok)
		}
	}
	if k, ok := Find(api.Program{}, ""); k != 0 || ok {
		t.Error("no function:", k, ok)
	}
	if k, ok := Find(api.Program{Consts: []api.Const{text("a")}}, "a"); k != 0 || ok {
		t.Error("a constant:", k, ok)
	}
}
