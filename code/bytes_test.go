package code

import (
	"bytes"
	"encoding/hex"
	"math"
	"math/rand"
	"slices"
	"strings"
	"testing"

	"portage/api"
)

// unhex is the bytes of digits with gaps between.
func unhex(t *testing.T, s string) []byte {
	t.Helper()
	b, err := hex.DecodeString(strings.ReplaceAll(s, " ", ""))
	if err != nil {
		t.Fatal(err)
	}
	return b
}

// refuses asks that Encode of a list is this error, and nothing beside it.
func refuses(t *testing.T, l []api.Instr, want api.Errno) {
	t.Helper()
	if b, err := Encode(l); err != want || len(b) != 0 {
		t.Error(len(l), "instructions:", len(b), "bytes,", err)
	}
}

func TestBytesExamples(t *testing.T) {
	l := []api.Instr{{Op: api.OpInt, A: -1}, {Op: api.OpAdd}, {Op: api.OpJump, A: 300}}
	if b, err := Encode(l); !bytes.Equal(b, unhex(t, "04 01 0c 28 ac 02")) || err != api.OK {
		t.Error(b, err)
	}
	if back, err := Decode(unhex(t, "04 01 0c 28 ac 02")); !slices.Equal(back, l) || err != api.OK {
		t.Error(back, err)
	}
	for _, b := range [][]byte{nil, {}} {
		if back, err := Decode(b); len(back) != 0 || err != api.OK {
			t.Error(back, err)
		}
	}
}

// P7.5: no instruction is no byte.
func TestEncodeNothing(t *testing.T) {
	for _, l := range [][]api.Instr{nil, {}} {
		if b, err := Encode(l); len(b) != 0 || err != api.OK {
			t.Error(b, err)
		}
	}
}

// P7.5: each instruction about the edges of its operand, by itself and between two others.
func TestEncodeEach(t *testing.T) {
	all := rows(t)
	for _, w := range all {
		for _, a := range operands() {
			i := api.Instr{Op: w.op, A: a}
			between := []api.Instr{{Op: api.OpNop}, i, {Op: api.OpBic}}
			if !isRight(w.kind, a) {
				refuses(t, []api.Instr{i}, api.ErrOp)
				refuses(t, between, api.ErrOp)
				continue
			}
			want := formed(all, i)
			if b, err := Encode([]api.Instr{i}); !bytes.Equal(b, want) || err != api.OK {
				t.Fatal(i, b, err)
			}
			want = slices.Concat([]byte{0}, want, []byte{66})
			if b, err := Encode(between); !bytes.Equal(b, want) || err != api.OK {
				t.Fatal(between, b, err)
			}
		}
	}
}

// P7.5: forms written out.
func TestEncodeForms(t *testing.T) {
	for _, c := range []struct {
		i    api.Instr
		want string
	}{
		{api.Instr{Op: api.OpInt, A: 0}, "04 00"},
		{api.Instr{Op: api.OpInt, A: 1}, "04 02"},
		{api.Instr{Op: api.OpInt, A: -64}, "04 7f"},
		{api.Instr{Op: api.OpInt, A: 64}, "04 80 01"},
		{api.Instr{Op: api.OpInt, A: math.MaxInt64}, "04 fe ff ff ff ff ff ff ff ff 01"},
		{api.Instr{Op: api.OpInt, A: math.MinInt64}, "04 ff ff ff ff ff ff ff ff ff 01"},
		{api.Instr{Op: api.OpConst, A: 511}, "05 ff 03"},
		{api.Instr{Op: api.OpFunc, A: 127}, "06 7f"},
		{api.Instr{Op: api.OpLoad, A: 63}, "0a 3f"},
		{api.Instr{Op: api.OpExt, A: 32}, "18 20"},
		{api.Instr{Op: api.OpJnz, A: 1999}, "2a cf 0f"},
		{api.Instr{Op: api.OpJz, A: 128}, "29 80 01"},
		{api.Instr{Op: api.OpCall, A: 0}, "2b 00"},
		{api.Instr{Op: api.OpChan, A: 64}, "3e 40"},
		{api.Instr{Op: api.OpRet, A: 0}, "2c"},
	} {
		if b, err := Encode([]api.Instr{c.i}); !bytes.Equal(b, unhex(t, c.want)) || err != api.OK {
			t.Error(c.i, b, err)
		}
		if l, err := Decode(unhex(t, c.want)); !slices.Equal(l, []api.Instr{c.i}) || err != api.OK {
			t.Error(c.want, l, err)
		}
	}
}

// P7.5: the wrong one may stand anywhere; its number is not cut down to a byte.
func TestEncodeWrong(t *testing.T) {
	for _, op := range noOps() {
		for at := range 5 {
			l := make([]api.Instr, 5)
			l[at].Op = op
			refuses(t, l, api.ErrOp)
		}
	}
	l := make([]api.Instr, api.MaxCode)
	l[api.MaxCode-1].A = 1
	refuses(t, l, api.ErrOp)
}

// P7.5: as many as there may be, and more; ErrMany is named ahead of ErrOp.
func TestEncodeMany(t *testing.T) {
	l := make([]api.Instr, 2*api.MaxCode)
	if b, err := Encode(l[:api.MaxCode]); !bytes.Equal(b, make([]byte, 2000)) || err != api.OK {
		t.Error(len(b), err)
	}
	for _, n := range []int{api.MaxCode + 1, api.MaxCode + 2, 2 * api.MaxCode} {
		refuses(t, l[:n], api.ErrMany)
		l[0] = api.Instr{Op: -1, A: 7}
		refuses(t, l[:n], api.ErrMany)
		l[0] = api.Instr{}
	}
}

// P7.6: each error, the first of several.
func TestDecodeErrors(t *testing.T) {
	for _, c := range []struct {
		b    string
		want api.Errno
	}{
		{"04", api.ErrShort},
		{"28 80 00", api.ErrForm},
		{"43", api.ErrOp},
		{"18 18", api.ErrOp},
		{"ff", api.ErrOp},
		{"80", api.ErrOp},
		{"80 80 00", api.ErrOp},
		{"00 43", api.ErrOp},
		{"28", api.ErrShort},
		{"28 80", api.ErrShort},
		{"28 80 80", api.ErrShort},
		{"04 ff ff ff ff ff ff ff ff ff", api.ErrShort},
		{"04 ff ff ff ff ff ff ff ff ff 02", api.ErrForm},
		{"04 80 00", api.ErrForm},
		{"05 ff ff ff ff ff ff ff ff ff 01", api.ErrOp},
		{"28 ff ff ff ff ff ff ff ff ff 01", api.ErrOp},
		{"3e 80 80 80 80 80 80 80 80 80 01", api.ErrOp},
		{"3e 81 80 80 80 80 80 80 80 80 01", api.ErrOp},
		{"28 80 80 80 80 10", api.ErrOp},
		{"28 d0 0f", api.ErrOp},
		{"28 cf 8f 00", api.ErrForm},
		{"28 ff ff ff ff ff ff ff ff ff 02", api.ErrForm},
		{"0a 40", api.ErrOp},
		{"05 80 04", api.ErrOp},
		{"06 80 01", api.ErrOp},
		{"2b 40", api.ErrOp},
		{"18 00", api.ErrOp},
		{"18 40", api.ErrOp},
		{"3e 00", api.ErrOp},
		{"3e 41", api.ErrOp},
		{"43 04", api.ErrOp},
		{"04 43", api.OK},
		{"3e 00 04", api.ErrOp},
		{"04 80 00 43", api.ErrForm},
		{"00 00 04", api.ErrShort},
		{"00 01", api.OK},
	} {
		l, err := Decode(unhex(t, c.b))
		if err != c.want || err != api.OK && len(l) != 0 {
			t.Error(c.b, l, err)
		}
	}
}

// P7.6: as many as there may be; a byte behind them is ErrMany, whatever it is, but not ahead of an earlier error.
func TestDecodeMany(t *testing.T) {
	full := bytes.Repeat([]byte{40, 0xcf, 15}, api.MaxCode)
	if l, err := Decode(full); len(l) != api.MaxCode || err != api.OK || l[1999] != (api.Instr{Op: api.OpJump, A: 1999}) {
		t.Error(len(l), err)
	}
	for _, more := range [][]byte{{0}, {4}, {67}, {255}, {40, 0x80, 0}, {0, 0, 0}} {
		if l, err := Decode(slices.Concat(full, more)); len(l) != 0 || err != api.ErrMany {
			t.Error(more, len(l), err)
		}
		wrong := slices.Concat(full, more)
		wrong[3*1999] = 67
		if l, err := Decode(wrong); len(l) != 0 || err != api.ErrOp {
			t.Error(more, len(l), err)
		}
	}
	if l, err := Decode(full[:3*api.MaxCode-1]); len(l) != 0 || err != api.ErrShort {
		t.Error(len(l), err)
	}
	if l, err := Decode(make([]byte, 1<<22)); len(l) != 0 || err != api.ErrMany {
		t.Error(len(l), err)
	}
}

// same asks that Decode answers what the words answer.
func same(t *testing.T, all []row, b []byte) {
	t.Helper()
	l, err := Decode(b)
	want, wantErr := decoded(all, b)
	if err != wantErr || !slices.Equal(l, want) {
		t.Fatalf("% x is %v, %v and not %v, %v", b, l, err, want, wantErr)
	}
}

// P7.6: all rows of one and two bytes, and all of three and four out of bytes that matter.
func TestDecodeShortRows(t *testing.T) {
	all := rows(t)
	for a := range 256 {
		same(t, all, []byte{byte(a)})
		for b := range 256 {
			same(t, all, []byte{byte(a), byte(b)})
		}
	}
	some := []byte{0, 1, 4, 7, 8, 10, 15, 16, 24, 32, 40, 43, 62, 63, 64, 66, 67, 127, 128, 129, 0xcf, 0xd0, 255}
	for _, a := range some {
		for _, b := range some {
			for _, c := range some {
				same(t, all, []byte{a, b, c})
				for _, d := range some {
					same(t, all, []byte{a, b, c, d})
				}
			}
		}
	}
}

// P7.6: bytes of lists, as they are and spoilt here and there.
func TestDecodeSpoilt(t *testing.T) {
	all := rows(t)
	r := rand.New(rand.NewSource(7))
	for range 20000 {
		b, err := Encode(someList(all, r, 12))
		if err != api.OK {
			t.Fatal(err)
		}
		same(t, all, b)
		for len(b) > 0 && r.Intn(3) > 0 {
			switch at := r.Intn(len(b)); r.Intn(4) {
			case 0:
				b[at] = byte(r.Intn(256))
			case 1:
				b = slices.Delete(b, at, at+1)
			case 2:
				b = slices.Insert(b, at, byte(r.Intn(256)))
			case 3:
				b[at] ^= 1 << r.Intn(8)
			}
			same(t, all, b)
		}
	}
}
