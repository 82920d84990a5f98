package program

import (
	"portage/api"
	"portage/code"
	"portage/wire"
)

// sign is what the bytes of every program begin with.
const sign = "PTP\x01"

// mostCode is how many bytes the code of a function may have: of an instruction a byte for its operation, and ten for the longest number.
const mostCode = 11 * api.MaxCode

// Encode is a program as bytes.
func Encode(p api.Program) ([]byte, api.Errno) {
	if _, err := Check(p); err != api.OK {
		return nil, err
	}
	w := wire.NewWriter()
	w.Raw([]byte(sign))
	writeList(w, p.Consts, writeConst)
	writeList(w, p.Funcs, writeFunc)
	if w.Len() > api.MaxProgram {
		return nil, api.ErrMany
	}
	return w.Done(), api.OK
}

// writeList writes how many there are, and each of them.
func writeList[T any](w *wire.Writer, l []T, write func(*wire.Writer, T)) {
	writeCount(w, len(l))
	for _, x := range l {
		write(w, x)
	}
}

// writeCount writes a count.
func writeCount(w *wire.Writer, n int) { w.Uint(uint64(n)) }

// writeConst writes a constant that is right.
func writeConst(w *wire.Writer, c api.Const) {
	w.Byte(byte(c.Kind))
	if c.Kind == api.Real {
		w.Word(uint64(c.N))
		return
	}
	w.Text(c.Text)
}

// writeFunc writes a function that is right.
func writeFunc(w *wire.Writer, f api.Function) {
	w.Text(f.Name)
	writeCount(w, f.Params)
	writeCount(w, f.Locals)
	b, _ := code.Encode(f.Code)
	writeCount(w, len(b))
	w.Raw(b)
	writeList(w, f.Handlers, writeHandler)
}

// writeHandler writes a handler.
func writeHandler(w *wire.Writer, h api.Handler) {
	writeCount(w, h.From)
	writeCount(w, h.To)
	writeCount(w, h.Target)
	writeCount(w, h.Height)
}

// Decode is the program that these bytes are.
func Decode(b []byte) (api.Program, api.Errno) {
	if len(b) > api.MaxProgram {
		return api.Program{}, api.ErrMany
	}
	p, err := readProgram(wire.NewReader(b))
	if err != api.OK {
		return api.Program{}, err
	}
	if _, err := Check(p); err != api.OK {
		return api.Program{}, err
	}
	return p, api.OK
}

// readProgram reads a program that need not be well-formed, up to the last byte.
func readProgram(r *wire.Reader) (api.Program, api.Errno) {
	begin := string(r.Raw(len(sign)))
	if r.Err() == api.OK && begin != sign {
		return api.Program{}, api.ErrForm
	}
	consts, err := readList(r, api.MaxConsts, readConst)
	if err != api.OK {
		return api.Program{}, err
	}
	funcs, err := readList(r, api.MaxFuncs, readFunc)
	if err != api.OK {
		return api.Program{}, err
	}
	return api.Program{Consts: consts, Funcs: funcs}, r.End()
}

// readList reads how many there are, at most so many, and each of them, up to the first error.
func readList[T any](r *wire.Reader, most int, read func(*wire.Reader) (T, api.Errno)) ([]T, api.Errno) {
	var l []T
	for range r.Count(most) {
		x, err := read(r)
		if err != api.OK {
			return nil, err
		}
		l = append(l, x)
	}
	return l, r.Err()
}

// readConst reads a constant.
func readConst(r *wire.Reader) (api.Const, api.Errno) {
	c := api.Const{Kind: int(r.Byte())}
	switch c.Kind {
	case api.Real:
		c.N = int64(r.Word())
	case api.Text:
		c.Text = r.Text(api.MaxText)
	default:
		// A kind that isn't there at all comes here as 0, and is the reader's error.
		if r.Err() == api.OK {
			return api.Const{}, api.ErrForm
		}
	}
	return c, r.Err()
}

// readFunc reads a function.
func readFunc(r *wire.Reader) (api.Function, api.Errno) {
	var f api.Function
	f.Name = r.Text(api.MaxName)
	f.Params = r.Count(api.MaxLocals)
	f.Locals = r.Count(api.MaxLocals)
	// Where the reader has stopped it gives no bytes, which are no fault of the code: the list of handlers then tells the reader's error.
	l, err := code.Decode(r.Raw(r.Count(mostCode)))
	if err != api.OK {
		return api.Function{}, err
	}
	f.Code = l
	f.Handlers, err = readList(r, api.MaxHandlers, readHandler)
	return f, err
}

// readHandler reads a handler.
func readHandler(r *wire.Reader) (api.Handler, api.Errno) {
	var h api.Handler
	h.From = r.Count(api.MaxCode)
	h.To = r.Count(api.MaxCode)
	h.Target = r.Count(api.MaxCode)
	h.Height = r.Count(api.MaxHeight)
	return h, r.Err()
}
