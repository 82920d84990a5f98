package verify

import (
	"bytes"
	"math/rand"
	"slices"
	"testing"

	"portage/api"
	"portage/program"
)

// loadsAsMeant holds Load to P10.2, and to P10.6 where it is OK.
func loadsAsMeant(t *testing.T, b []byte) api.Errno {
	t.Helper()
	want, wrong := program.Decode(b)
	var facts api.Facts
	if wrong == api.OK {
		facts, _, wrong = meant(want)
	}
	if wrong != api.OK {
		want = api.Program{}
	}
	p, f, err := Load(b)
	if err != wrong || !samePrograms(p, want) || !sameFacts(f, facts) {
		t.Fatalf("%x: %v %v %v, not %v %v %v", b, p, f, err, want, facts, wrong)
	}
	if err == api.OK {
		if again, e := program.Encode(p); e != api.OK || !bytes.Equal(again, b) {
			t.Fatalf("%x became %x, %v", b, again, e)
		}
		if g, at, e := Program(p); e != api.OK || at != (api.Place{}) || !sameFacts(f, g) {
			t.Fatal(p, f, g, at, e)
		}
	}
	return err
}

// P10.2: of one program: as it is, cut off, with more behind, in another form, not well-formed, not fit, not reached.
func TestLoadOne(t *testing.T) {
	good, _ := program.Encode(alone(list(nilIns, retIns)))
	p, f, err := Load(good)
	if err != api.OK || !samePrograms(p, alone(list(nilIns, retIns))) || !sameFacts(f, api.Facts{Heights: [][]int{{0, 1}}, Most: []int{1}}) {
		t.Error(p, f, err)
	}
	other := func(change func(b []byte)) []byte {
		b := slices.Clone(good)
		change(b)
		return b
	}
	unfit, _ := program.Encode(alone(list(popIns, retIns)))
	lost, _ := program.Encode(alone(list(nilIns, retIns, retIns)))
	for _, c := range []struct {
		b    []byte
		want api.Errno
	}{
		{nil, api.ErrShort},
		{good[:len(good)-1], api.ErrShort},
		{append(slices.Clone(good), 0), api.ErrLong},
		{other(func(b []byte) { b[3] = 5 }), api.ErrForm},
		{other(func(b []byte) { b[11] = 1 }), api.ErrArg}, // one parameter, no local
		{make([]byte, api.MaxProgram+1), api.ErrMany},
		{unfit, api.ErrHeight},
		{lost, api.ErrReach},
	} {
		if p, f, err := Load(c.b); err != c.want || !samePrograms(p, api.Program{}) || !noFacts(f) {
			t.Errorf("%x: %v %v %v, not %v", c.b[:min(40, len(c.b))], p, f, err, c.want)
		}
	}
}

// P10.2, P10.6, W5: programs that fit and that don't, by their bytes, and bytes that are changed.
func TestLoadSome(t *testing.T) {
	r := rand.New(rand.NewSource(107))
	seen := map[api.Errno]int{}
	for range 3000 {
		p, _ := someProgram(r, 16)
		p = copied(p)
		if r.Intn(2) == 0 {
			spoil(r, &p)
		}
		b, err := program.Encode(p)
		if err != api.OK {
			continue
		}
		seen[loadsAsMeant(t, b)]++
		for range 3 {
			c := slices.Clone(b)
			c[r.Intn(len(c))] = byte(r.Intn(256))
			seen[loadsAsMeant(t, c)]++
		}
		seen[loadsAsMeant(t, b[:r.Intn(len(b))])]++
	}
	for _, e := range []api.Errno{api.OK, api.ErrShort, api.ErrForm, api.ErrOp, api.ErrHeight, api.ErrReach, api.ErrIndex} {
		if seen[e] < 10 {
			t.Error("too few of", e, seen)
		}
	}
}

// R1: bytes that are nothing of the kind.
func TestLoadAnyBytes(t *testing.T) {
	r := rand.New(rand.NewSource(108))
	for range 20000 {
		b := make([]byte, r.Intn(40))
		r.Read(b)
		if r.Intn(2) == 0 {
			b = append([]byte{0x50, 0x54, 0x50, 1, 0, 1, 1, 'a', 0, 0}, b...)
		}
		loadsAsMeant(t, b)
	}
}
