package program

import (
	"bytes"
	"encoding/binary"
	"math/rand"
	"testing"

	"portage/api"
	"portage/code"
)

// written is a program's bytes by the chapter's words, whether it is well-formed or not; its code must be right.
func written(p api.Program) []byte {
	b := []byte{0x50, 0x54, 0x50, 0x01}
	count := func(n int) { b = binary.AppendUvarint(b, uint64(n)) }
	count(len(p.Consts))
	for _, c := range p.Consts {
		b = append(b, byte(c.Kind))
		switch c.Kind {
		case 3:
			b = binary.BigEndian.AppendUint64(b, uint64(c.N))
		case 4:
			count(len(c.Text))
			b = append(b, c.Text...)
		}
	}
	count(len(p.Funcs))
	for _, f := range p.Funcs {
		count(len(f.Name))
		b = append(b, f.Name...)
		count(f.Params)
		count(f.Locals)
		l, _ := code.Encode(f.Code)
		count(len(l))
		b = append(b, l...)
		count(len(f.Handlers))
		for _, h := range f.Handlers {
			count(h.From)
			count(h.To)
			count(h.Target)
			count(h.Height)
		}
	}
	return b
}

// giveUp is how the slow reader below stops.
type giveUp struct{ err api.Errno }

// slow reads bytes by the chapter's words, and gives up at what is met first.
type slow struct{ b []byte }

func (s *slow) take(n int) []byte {
	if n > len(s.b) {
		panic(giveUp{api.ErrShort})
	}
	x := s.b[:n]
	s.b = s.b[n:]
	return x
}

func (s *slow) count(most uint64) int {
	var digits []byte
	for {
		d := s.take(1)[0]
		digits = append(digits, d)
		if len(digits) == 10 && d != 1 || len(digits) > 1 && d == 0 {
			panic(giveUp{api.ErrForm})
		}
		if d < 128 {
			break
		}
	}
	n, _ := binary.Uvarint(digits)
	if n > most {
		panic(giveUp{api.ErrMany})
	}
	return int(n)
}

func (s *slow) program() (p api.Program) {
	if string(s.take(4)) != "PTP\x01" {
		panic(giveUp{api.ErrForm})
	}
	for range s.count(512) {
		c := api.Const{Kind: int(s.take(1)[0])}
		switch c.Kind {
		case 3:
			c.N = int64(binary.BigEndian.Uint64(s.take(8)))
		case 4:
			c.Text = string(s.take(s.count(4096)))
		default:
			panic(giveUp{api.ErrForm})
		}
		p.Consts = append(p.Consts, c)
	}
	for range s.count(128) {
		var f api.Function
		f.Name = string(s.take(s.count(32)))
		f.Params = s.count(64)
		f.Locals = s.count(64)
		l, err := code.Decode(s.take(s.count(22000)))
		if err != api.OK {
			panic(giveUp{err})
		}
		f.Code = l
		for range s.count(32) {
			var h api.Handler
			h.From = s.count(2000)
			h.To = s.count(2000)
			h.Target = s.count(2000)
			h.Height = s.count(64)
			f.Handlers = append(f.Handlers, h)
		}
		p.Funcs = append(p.Funcs, f)
	}
	if len(s.b) > 0 {
		panic(giveUp{api.ErrLong})
	}
	return p
}

// readSlowly is Decode by the chapter's words.
func readSlowly(b []byte) (p api.Program, err api.Errno) {
	defer func() {
		if why, ok := recover().(giveUp); ok {
			p, err = api.Program{}, why.err
		}
	}()
	p = (&slow{b}).program()
	if _, err := wrong(p); err != api.OK {
		return api.Program{}, err
	}
	return p, api.OK
}

// turned is some bytes of which a few were changed, taken out, put in, or cut off.
func turned(r *rand.Rand, b []byte) []byte {
	b = bytes.Clone(b)
	some := []byte{0, 1, 2, 3, 4, 5, 31, 32, 33, 63, 64, 65, 66, 67, 127, 128, 129, 255}
	for range r.Intn(3) {
		if len(b) == 0 {
			return b
		}
		k := r.Intn(len(b))
		switch r.Intn(8) {
		case 0, 1, 2:
			b[k] = some[r.Intn(len(some))]
		case 3:
			b[k] += byte(1 - 2*r.Intn(2))
		case 4:
			b = append(b[:k], b[k+1:]...)
		case 5:
			b = append(b[:k:k], append([]byte{some[r.Intn(len(some))]}, b[k:]...)...)
		case 6:
			b[k] |= 128
		case 7:
			b = b[:k]
		}
	}
	return b
}

// P8.2, P8.3, P8.6: programs as bytes and back, bytes that were turned among them, against the chapter's words.
func TestDecodeAgainstTheWords(t *testing.T) {
	r := rand.New(rand.NewSource(83))
	seen := map[api.Errno]int{}
	for range 150000 {
		p := someProgram(r)
		if r.Intn(3) == 0 {
			spoil(r, &p)
		}
		b := turned(r, written(p))
		got, err := Decode(b)
		want, wantErr := readSlowly(b)
		if err != wantErr || !alike(got, want) {
			t.Fatalf("%x: %v %v, not %v %v", b, got, err, want, wantErr)
		}
		seen[err]++
		if err != api.OK {
			continue
		}
		if again, err := Encode(got); !bytes.Equal(again, b) || err != api.OK {
			t.Fatalf("%x comes back as %x %v", b, again, err)
		}
	}
	for _, err := range []api.Errno{api.OK, api.ErrArg, api.ErrShort, api.ErrLong, api.ErrForm, api.ErrMany, api.ErrText, api.ErrOp, api.ErrIndex, api.ErrTwice} {
		if seen[err] < 100 {
			t.Error(err, "came only", seen[err], "times")
		}
	}
}

// P8.3: bytes of all sorts, that begin as a program does.
func TestDecodeAnyBytes(t *testing.T) {
	r := rand.New(rand.NewSource(38))
	for range 200000 {
		b := make([]byte, r.Intn(40))
		for k := range b {
			b[k] = byte(r.Intn(256)) & byte(r.Intn(256)) & byte(r.Intn(256))
		}
		if r.Intn(8) > 0 {
			copy(b, "PTP\x01")
		}
		got, err := Decode(b)
		want, wantErr := readSlowly(b)
		if err != wantErr || !alike(got, want) {
			t.Fatalf("%x: %v %v, not %v %v", b, got, err, want, wantErr)
		}
	}
}
