package profile

import (
	"math"

	"portage/api"
	"portage/wire"
)

// sign is what the bytes of every profile begin with.
const sign = "PTF\x01"

// allKinds has the bit of each kind.
const allKinds = 1<<(api.Chan+1) - 1

// The fields of a spot, in the order in which they are written; the flag of each is that bit.
const (
	countField = iota
	aField
	bField
	calleeField
	fields
)

// numbers are a spot's fields.
type numbers [fields]int64

// numbersOf are the fields of a spot.
func numbersOf(s api.Spot) numbers {
	return numbers{countField: s.Count, aField: int64(s.A), bField: int64(s.B), calleeField: int64(s.Callee)}
}

// spot is the spot of fields that fit.
func (n numbers) spot() api.Spot {
	return api.Spot{Count: n[countField], A: uint16(n[aField]), B: uint16(n[bField]), Callee: int(n[calleeField])}
}

// fits tells whether a field may have a number.
func fits(field int, x int64) bool {
	least, most := int64(0), int64(allKinds)
	switch field {
	case countField:
		most = math.MaxInt64
	case calleeField:
		least, most = -1, api.MaxFuncs
	}
	return least <= x && x <= most
}

// Encode is a profile as bytes.
func Encode(f api.Profile) ([]byte, api.Errno) {
	if err := check(f); err != api.OK {
		return nil, err
	}
	w := wire.NewWriter()
	w.Raw([]byte(sign))
	w.Uint(uint64(len(f.Funcs)))
	for _, l := range f.Funcs {
		w.Uint(uint64(len(l)))
		for _, s := range l {
			writeSpot(w, numbersOf(s))
		}
	}
	return w.Done(), api.OK
}

// check is the error for which a profile has no bytes: every length is asked ahead of any number.
func check(f api.Profile) api.Errno {
	if len(f.Funcs) > api.MaxFuncs {
		return api.ErrMany
	}
	for _, l := range f.Funcs {
		if len(l) > api.MaxCode {
			return api.ErrMany
		}
	}
	for _, l := range f.Funcs {
		for _, s := range l {
			if !allFit(numbersOf(s)) {
				return api.ErrArg
			}
		}
	}
	return api.OK
}

// allFit tells whether each field may have its number.
func allFit(n numbers) bool {
	for field, x := range n {
		if !fits(field, x) {
			return false
		}
	}
	return true
}

// writeSpot writes a spot whose fields fit.
func writeSpot(w *wire.Writer, n numbers) {
	var flags byte
	for field, x := range n {
		if x != 0 {
			flags |= 1 << field
		}
	}
	w.Byte(flags)
	for field, x := range n {
		switch {
		case x == 0:
		case field == calleeField:
			w.Int(x)
		default:
			w.Uint(uint64(x))
		}
	}
}

// Decode is the profile that these bytes are.
func Decode(b []byte) (api.Profile, api.Errno) {
	f, err := readProfile(wire.NewReader(b))
	if err != api.OK {
		return api.Profile{}, err
	}
	return f, api.OK
}

// readProfile reads a profile, up to the last byte.
func readProfile(r *wire.Reader) (api.Profile, api.Errno) {
	begin := string(r.Raw(len(sign)))
	if r.Err() == api.OK && begin != sign {
		return api.Profile{}, api.ErrForm
	}
	var f api.Profile
	// Where the reader has stopped it counts nothing, and tells its error at the end.
	for range r.Count(api.MaxFuncs) {
		l, err := readSpots(r)
		if err != api.OK {
			return api.Profile{}, err
		}
		f.Funcs = append(f.Funcs, l)
	}
	return f, r.End()
}

// readSpots reads the spots of a function.
func readSpots(r *wire.Reader) ([]api.Spot, api.Errno) {
	var l []api.Spot
	for range r.Count(api.MaxCode) {
		n, err := readSpot(r)
		if err != api.OK {
			return nil, err
		}
		l = append(l, n.spot())
	}
	return l, r.Err()
}

// readSpot reads a spot.
func readSpot(r *wire.Reader) (numbers, api.Errno) {
	flags := r.Byte()
	if flags >= 1<<fields {
		return numbers{}, api.ErrForm
	}
	var n numbers
	for field := range n {
		if flags&(1<<field) == 0 {
			continue
		}
		x, err := readField(r, field)
		if err != api.OK {
			return numbers{}, err
		}
		n[field] = x
	}
	return n, r.Err()
}

// readField reads a field that is said to be there, so that it isn't 0.
func readField(r *wire.Reader, field int) (int64, api.Errno) {
	var x int64
	if field == calleeField {
		x = r.Int()
	} else {
		// A number above the greatest int64 comes out below 0, which does not fit either.
		x = int64(r.Uint())
	}
	switch {
	case r.Err() != api.OK:
		return 0, r.Err()
	case x == 0:
		return 0, api.ErrForm
	case !fits(field, x):
		return 0, api.ErrArg
	}
	return x, api.OK
}
