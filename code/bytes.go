package code

import (
	"portage/api"
	"portage/wire"
)

// Encode is a list of instructions as bytes.
func Encode(l []api.Instr) ([]byte, api.Errno) {
	if len(l) > api.MaxCode {
		return nil, api.ErrMany
	}
	w := wire.NewWriter()
	for _, i := range l {
		if err := Check(i); err != api.OK {
			return nil, err
		}
		w.Byte(byte(i.Op))
		formOf(shapeOf(i.Op).operand).write(w, i.A)
	}
	return w.Done(), api.OK
}

// Decode is the list that these bytes are.
func Decode(b []byte) ([]api.Instr, api.Errno) {
	r := wire.NewReader(b)
	var l []api.Instr
	for r.Left() > 0 {
		if len(l) == api.MaxCode {
			return nil, api.ErrMany
		}
		i, err := next(r)
		if err != api.OK {
			return nil, err
		}
		l = append(l, i)
	}
	return l, api.OK
}

// next reads an instruction, of which a byte at least is left.
func next(r *wire.Reader) (api.Instr, api.Errno) {
	op := int(r.Byte())
	kind, is := Operand(op)
	if !is {
		return api.Instr{}, api.ErrOp
	}
	i := api.Instr{Op: op, A: formOf(kind).read(r)}
	if err := r.Err(); err != api.OK {
		return api.Instr{}, err
	}
	return i, Check(i)
}
