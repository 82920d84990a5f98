package profile

import (
	"bytes"
	"encoding/binary"
	"math/rand"
	"testing"

	"portage/api"
)

// written is a profile's bytes by the chapter's words, whether Encode takes it or not.
func written(f api.Profile) []byte {
	b := []byte{0x50, 0x54, 0x46, 0x01}
	b = binary.AppendUvarint(b, uint64(len(f.Funcs)))
	for _, l := range f.Funcs {
		b = binary.AppendUvarint(b, uint64(len(l)))
		for _, s := range l {
			flags := len(b)
			b = append(b, 0)
			if s.Count != 0 {
				b[flags] += 1
				b = binary.AppendUvarint(b, uint64(s.Count))
			}
			if s.A != 0 {
				b[flags] += 2
				b = binary.AppendUvarint(b, uint64(s.A))
			}
			if s.B != 0 {
				b[flags] += 4
				b = binary.AppendUvarint(b, uint64(s.B))
			}
			if s.Callee != 0 {
				b[flags] += 8
				b = binary.AppendVarint(b, int64(s.Callee))
			}
		}
	}
	return b
}

// giveUp is how the slow reader below stops.
type giveUp struct{ err api.Errno }

// slow reads bytes by the chapter's words, and gives up at what is met first.
type slow struct{ b []byte }

func (s *slow) take() byte {
	if len(s.b) == 0 {
		panic(giveUp{api.ErrShort})
	}
	x := s.b[0]
	s.b = s.b[1:]
	return x
}

func (s *slow) number() uint64 {
	var digits []byte
	for {
		d := s.take()
		digits = append(digits, d)
		if len(digits) == 10 && d != 1 || len(digits) > 1 && d == 0 {
			panic(giveUp{api.ErrForm})
		}
		if d < 128 {
			n, _ := binary.Uvarint(digits)
			return n
		}
	}
}

func (s *slow) count(most uint64) uint64 {
	n := s.number()
	if n > most {
		panic(giveUp{api.ErrMany})
	}
	return n
}

// field is a number that is not 0, and from 1 to most.
func (s *slow) field(most uint64) uint64 {
	n := s.number()
	if n == 0 {
		panic(giveUp{api.ErrForm})
	}
	if n > most {
		panic(giveUp{api.ErrArg})
	}
	return n
}

// callee is -1, which has the form of 1, or k, which has that of 2k.
func (s *slow) callee() int {
	n := s.number()
	switch {
	case n == 0:
		panic(giveUp{api.ErrForm})
	case n == 1:
		return -1
	case n%2 == 1 || n > 256:
		panic(giveUp{api.ErrArg})
	}
	return int(n / 2)
}

func (s *slow) spot() (x api.Spot) {
	flags := s.take()
	if flags > 15 {
		panic(giveUp{api.ErrForm})
	}
	if flags%2 == 1 {
		x.Count = int64(s.field(1<<63 - 1))
	}
	if flags/2%2 == 1 {
		x.A = uint16(s.field(1023))
	}
	if flags/4%2 == 1 {
		x.B = uint16(s.field(1023))
	}
	if flags/8%2 == 1 {
		x.Callee = s.callee()
	}
	return x
}

// readSlowly is Decode by the chapter's words.
func readSlowly(b []byte) (f api.Profile, err api.Errno) {
	defer func() {
		if why, ok := recover().(giveUp); ok {
			f, err = api.Profile{}, why.err
		}
	}()
	if len(b) < 4 {
		panic(giveUp{api.ErrShort})
	}
	if string(b[:4]) != "PTF\x01" {
		panic(giveUp{api.ErrForm})
	}
	s := &slow{b[4:]}
	for range s.count(128) {
		var l []api.Spot
		for range s.count(2000) {
			l = append(l, s.spot())
		}
		f.Funcs = append(f.Funcs, l)
	}
	if len(s.b) > 0 {
		panic(giveUp{api.ErrLong})
	}
	return f, api.OK
}

// holdDecode asks Decode of bytes, and holds it against the words.
func holdDecode(t *testing.T, b []byte) api.Errno {
	t.Helper()
	got, err := Decode(b)
	want, wantErr := readSlowly(b)
	if err != wantErr || !alike(got, want) {
		t.Fatalf("%x: %v %v, not %v %v", b, got, err, want, wantErr)
	}
	if err != api.OK {
		return err
	}
	if again, err := Encode(got); !bytes.Equal(again, b) || err != api.OK {
		t.Fatalf("%x comes back as %x %v", b, again, err)
	}
	return api.OK
}

// turned is some bytes of which a few were changed, taken out, put in, or cut off.
func turned(r *rand.Rand, b []byte) []byte {
	b = bytes.Clone(b)
	some := []byte{0, 1, 2, 3, 4, 7, 8, 14, 15, 16, 17, 127, 128, 129, 255}
	for range r.Intn(3) {
		if len(b) == 0 {
			return b
		}
		k := r.Intn(len(b))
		switch r.Intn(8) {
		case 0, 1, 2:
			b[k] = pick(r, some)
		case 3:
			b[k] += byte(1 - 2*r.Intn(2))
		case 4:
			b = append(b[:k], b[k+1:]...)
		case 5:
			b = append(b[:k:k], append([]byte{pick(r, some)}, b[k:]...)...)
		case 6:
			b[k] |= 128
		case 7:
			b = b[:k]
		}
	}
	return b
}

// P18.6 to P18.9: profiles as bytes and back, right ones, others and bytes that were turned, against the chapter's words.
func TestDecodeAgainstTheWords(t *testing.T) {
	r := rand.New(rand.NewSource(188))
	seen := map[api.Errno]int{}
	for range 200000 {
		draw := right
		if r.Intn(3) == 0 {
			draw = anySpot
		}
		f := drawn(r, draw)
		if r.Intn(2000) == 0 {
			f.Funcs = append(f.Funcs, make([]api.Spot, 1999+r.Intn(4)))
		}
		b := written(f)
		if r.Intn(2) == 0 {
			b = turned(r, b)
		}
		seen[holdDecode(t, b)]++
	}
	for _, err := range []api.Errno{api.OK, api.ErrArg, api.ErrShort, api.ErrLong, api.ErrForm, api.ErrMany} {
		if seen[err] < 500 {
			t.Error(err, "came only", seen[err], "times")
		}
	}
}

// P18.8: bytes of all sorts, most of which begin as a profile does.
func TestDecodeAnyBytes(t *testing.T) {
	r := rand.New(rand.NewSource(881))
	for range 200000 {
		b := make([]byte, r.Intn(30))
		for k := range b {
			b[k] = byte(r.Intn(256)) & byte(r.Intn(256)) & byte(r.Intn(256))
		}
		if r.Intn(8) > 0 {
			copy(b, "PTF\x01")
		}
		holdDecode(t, b)
	}
}

// P18.8: every spot of one or two bytes, of three that matter, and every sign that differs in one byte.
func TestDecodeShortBytes(t *testing.T) {
	one := "PTF\x01\x01\x01"
	for a := range 256 {
		holdDecode(t, []byte{byte(a)})
		holdDecode(t, append([]byte("PTF\x01"), byte(a)))
		holdDecode(t, append([]byte(one), byte(a)))
		for k := range 4 {
			b := []byte(one + "\x00")
			b[k] = byte(a)
			holdDecode(t, b)
		}
		for b := range 256 {
			holdDecode(t, append([]byte("PTF\x01"), byte(a), byte(b)))
			holdDecode(t, append([]byte(one), byte(a), byte(b)))
			for _, c := range []byte{0, 1, 7, 8, 127, 128, 255} {
				holdDecode(t, append([]byte(one), byte(a), byte(b), c))
			}
		}
	}
}
