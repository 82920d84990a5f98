package profile

import (
	"bytes"
	"encoding/hex"
	"math"
	"math/rand"
	"slices"
	"strings"
	"testing"

	"portage/api"
)

// unhex is the bytes that a text tells.
func unhex(t *testing.T, s string) []byte {
	t.Helper()
	b, err := hex.DecodeString(strings.ReplaceAll(s, " ", ""))
	if err != nil {
		t.Fatal(err)
	}
	return b
}

// P18.6: forms, the chapter's example among them, there and back.
func TestForms(t *testing.T) {
	for _, c := range []struct {
		f    api.Profile
		form string
	}{
		{of(), "50 54 46 01 00"},
		{of(nil), "50 54 46 01 01 00"},
		{of(nil, spots(api.Spot{}), nil), "50 54 46 01 03 00 01 00 00"},
		{of(spots(api.Spot{}, api.Spot{Count: 2, A: 12, B: 4, Callee: -1})), "50 54 46 01 01 02 00 0f 02 0c 04 01"},
		{of(spots(api.Spot{Count: 1})), "50 54 46 01 01 01 01 01"},
		{of(spots(api.Spot{A: 1})), "50 54 46 01 01 01 02 01"},
		{of(spots(api.Spot{B: 1})), "50 54 46 01 01 01 04 01"},
		{of(spots(api.Spot{Callee: 1})), "50 54 46 01 01 01 08 02"},
		{of(spots(api.Spot{Callee: -1})), "50 54 46 01 01 01 08 01"},
		{of(spots(api.Spot{Callee: 128})), "50 54 46 01 01 01 08 80 02"},
		{of(spots(api.Spot{A: 1023, B: 1023})), "50 54 46 01 01 01 06 ff 07 ff 07"},
		{of(spots(api.Spot{Count: math.MaxInt64})), "50 54 46 01 01 01 01 ff ff ff ff ff ff ff ff 7f"},
		{of(spots(api.Spot{Count: 300, B: 2}, api.Spot{A: 5, Callee: 3}), spots(api.Spot{Count: 128})), "50 54 46 01 02 02 05 ac 02 02 0a 05 06 01 01 80 01"},
	} {
		form := unhex(t, c.form)
		if b, err := Encode(c.f); err != api.OK || !bytes.Equal(b, form) {
			t.Errorf("%v: % x %v", c.f, b, err)
		}
		if f, err := Decode(form); err != api.OK || !alike(f, c.f) {
			t.Errorf("%s: %v %v", c.form, f, err)
		}
	}
}

// P18.6: each of the sixteen flags, by a spot with just these fields.
func TestFlags(t *testing.T) {
	for flags := range 16 {
		var s api.Spot
		want := []byte{0x50, 0x54, 0x46, 1, 1, 1, byte(flags)}
		if flags&1 != 0 {
			s.Count = 33
			want = append(want, 33)
		}
		if flags&2 != 0 {
			s.A = 34
			want = append(want, 34)
		}
		if flags&4 != 0 {
			s.B = 35
			want = append(want, 35)
		}
		if flags&8 != 0 {
			s.Callee = 18
			want = append(want, 36)
		}
		if b, err := Encode(of(spots(s))); err != api.OK || !bytes.Equal(b, want) {
			t.Errorf("%v: % x %v", s, b, err)
		}
		if f, err := Decode(want); err != api.OK || !alike(f, of(spots(s))) {
			t.Errorf("% x: %v %v", want, f, err)
		}
	}
}

// P18.7: errors, each at the edge of its limit; lengths come ahead of all numbers.
func TestEncodeErrors(t *testing.T) {
	bad := spots(api.Spot{Count: -1})
	for i, c := range []struct {
		f    api.Profile
		want api.Errno
	}{
		{of(make([][]api.Spot, 128)...), api.OK},
		{of(make([][]api.Spot, 129)...), api.ErrMany},
		{of(append(make([][]api.Spot, 128), bad)...), api.ErrMany},
		{of(append([][]api.Spot{bad}, make([][]api.Spot, 128)...)...), api.ErrMany},
		{of(make([]api.Spot, 2000)), api.OK},
		{of(make([]api.Spot, 2001)), api.ErrMany},
		{of(bad, make([]api.Spot, 2001)), api.ErrMany},
		{of(bad, nil, make([]api.Spot, 2001), nil), api.ErrMany},
		{of(append(make([]api.Spot, 2000), bad...)), api.ErrMany},
		{of(append(make([]api.Spot, 1999), bad...)), api.ErrArg},
		{of(nil, nil, bad), api.ErrArg},
		{of(bad, make([]api.Spot, 2000)), api.ErrArg},
		{of(append(make([][]api.Spot, 127), bad)...), api.ErrArg},
	} {
		b, err := Encode(c.f)
		if err != c.want || (err != api.OK) != (len(b) == 0) {
			t.Errorf("%d: %d bytes, %v", i, len(b), err)
		}
	}
}

// P18.7: each field at the edges of all numbers.
func TestEncodeNumbers(t *testing.T) {
	for _, x := range edges() {
		for _, c := range []struct {
			s    api.Spot
			fits bool
		}{
			{api.Spot{Count: int64(x)}, x >= 0},
			{api.Spot{A: uint16(x)}, uint16(x) <= 1023},
			{api.Spot{B: uint16(x)}, uint16(x) <= 1023},
			{api.Spot{Callee: x}, x >= -1 && x <= 128},
		} {
			f := of(nil, spots(right(rand.New(rand.NewSource(1))), c.s))
			want := api.ErrArg
			if c.fits {
				want = api.OK
			}
			b, err := Encode(f)
			if err != want {
				t.Errorf("%v: %v", c.s, err)
			}
			if c.fits && !bytes.Equal(b, written(f)) || !c.fits && len(b) > 0 {
				t.Errorf("%v: % x", c.s, b)
			}
		}
	}
}

// P18.8: what is wrong first, byte by byte.
func TestDecodeErrors(t *testing.T) {
	for _, c := range []struct {
		bytes string
		want  api.Errno
	}{
		{"", api.ErrShort},
		{"50 54 46", api.ErrShort},
		{"00 00 00", api.ErrShort},
		{"50 54 46 02", api.ErrForm},
		{"50 54 46 00 00", api.ErrForm},
		{"50 54 50 01 00", api.ErrForm},
		{"00 00 00 00", api.ErrForm},
		{"50 54 46 01", api.ErrShort},
		{"50 54 46 01 80", api.ErrShort},
		{"50 54 46 01 80 00", api.ErrForm},
		{"50 54 46 01 80 01", api.ErrShort},
		{"50 54 46 01 81 01", api.ErrMany},
		{"50 54 46 01 ff ff ff ff ff ff ff ff ff 01", api.ErrMany},
		{"50 54 46 01 ff ff ff ff ff ff ff ff ff 02", api.ErrForm},
		{"50 54 46 01 00 00", api.ErrLong},
		{"50 54 46 01 01", api.ErrShort},
		{"50 54 46 01 01 d0 0f", api.ErrShort},
		{"50 54 46 01 01 d1 0f", api.ErrMany},
		{"50 54 46 01 02 d1 0f", api.ErrMany},
		{"50 54 46 01 01 81 00", api.ErrForm},
		{"50 54 46 01 01 01", api.ErrShort},
		{"50 54 46 01 01 01 10", api.ErrForm},
		{"50 54 46 01 01 01 ff", api.ErrForm},
		{"50 54 46 01 01 02 10", api.ErrForm},
		{"50 54 46 01 01 01 0f", api.ErrShort},
		{"50 54 46 01 01 01 01 00", api.ErrForm},
		{"50 54 46 01 01 01 0f 00", api.ErrForm},
		{"50 54 46 01 01 01 02 00", api.ErrForm},
		{"50 54 46 01 01 01 04 00", api.ErrForm},
		{"50 54 46 01 01 01 08 00", api.ErrForm},
		{"50 54 46 01 01 01 01 81 00", api.ErrForm},
		{"50 54 46 01 01 01 01 80 80 80 80 80 80 80 80 80 01", api.ErrArg},
		{"50 54 46 01 01 01 01 ff ff ff ff ff ff ff ff ff 01", api.ErrArg},
		{"50 54 46 01 01 01 03 ff ff ff ff ff ff ff ff ff 01 00", api.ErrArg},
		{"50 54 46 01 01 01 01 ff ff ff ff ff ff ff ff ff 02", api.ErrForm},
		{"50 54 46 01 01 01 02 80 08", api.ErrArg},
		{"50 54 46 01 01 01 04 80 08", api.ErrArg},
		{"50 54 46 01 01 01 02 80 80 04", api.ErrArg},
		{"50 54 46 01 01 01 02 81 80 04", api.ErrArg},
		{"50 54 46 01 01 01 04 80 80 80 80 80 80 80 80 80 01", api.ErrArg},
		{"50 54 46 01 01 01 08 03", api.ErrArg},
		{"50 54 46 01 01 01 08 82 02", api.ErrArg},
		{"50 54 46 01 01 01 08 80 80 80 80 80 80 80 80 80 01", api.ErrArg},
		{"50 54 46 01 01 01 06 80 08 00", api.ErrArg},
		{"50 54 46 01 01 01 06 00 80 08", api.ErrForm},
		{"50 54 46 01 01 01 08 01 00", api.ErrLong},
		{"50 54 46 01 01 01 00 00", api.ErrLong},
		{"50 54 46 01 02 01 00", api.ErrShort},
	} {
		f, err := Decode(unhex(t, c.bytes))
		if err != c.want || len(f.Funcs) > 0 {
			t.Errorf("%s: %v %v, not %v", c.bytes, f, err, c.want)
		}
	}
}

// P18.7, P18.8: the greatest profile that has a form, and one too many of each sort behind its bytes.
func TestGreatest(t *testing.T) {
	r := rand.New(rand.NewSource(187))
	var f api.Profile
	for range api.MaxFuncs {
		l := make([]api.Spot, api.MaxCode)
		for pc := range l {
			l[pc] = right(r)
		}
		f.Funcs = append(f.Funcs, l)
	}
	b, err := Encode(f)
	if err != api.OK || !bytes.Equal(b, written(f)) {
		t.Fatal(len(b), err)
	}
	if g, err := Decode(b); err != api.OK || !alike(f, g) {
		t.Error("it does not come back", err)
	}
	if _, err := Decode(b[:len(b)-1]); err != api.ErrShort {
		t.Error(err)
	}
	if _, err := Decode(append(b, 0)); err != api.ErrLong {
		t.Error(err)
	}
	for _, g := range []api.Profile{{Funcs: append(slices.Clone(f.Funcs), nil)}, of(append(f.Funcs[0], api.Spot{}))} {
		if _, err := Encode(g); err != api.ErrMany {
			t.Error(err)
		}
		if _, err := Decode(written(g)); err != api.ErrMany {
			t.Error(err)
		}
	}
}
