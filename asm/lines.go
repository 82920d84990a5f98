package asm

import (
	"strings"

	"portage/api"
	"portage/code"
	"portage/decimal"
)

// source is what the lines read so far have said.
type source struct {
	line    int // the number of the line that is read
	consts  []api.Const
	constAt []int // the line of each constant
	funcs   []*function
	first   map[string]int // by name the first function that has it
	wanted  []want
}

// function is a function as far as its lines were read, and which lines they are.
type function struct {
	api.Function
	headAt     int
	codeAt     []int
	handlersAt []int
	labels     map[string]int
}

// want is a name that stands in a line for a number, which may be known by a later line alone.
type want struct {
	line  int
	name  string
	among map[string]int
	take  func(n int)
}

// read takes in what a line says.
func (s *source) read(line string) error {
	words, ok := wordsOf(line)
	if !ok {
		return api.ErrText
	}
	if len(words) == 0 {
		return nil
	}
	switch words[0] {
	case "const":
		if isConst(words) {
			return s.addConst(words)
		}
		fallthrough // any other const is an instruction
	case "func":
		if isHead(words) {
			return s.addHead(words)
		}
		fallthrough // and so is a func with one word behind it
	default:
		return s.readPart(words)
	}
}

// isConst tells whether a line that begins with const is a constant.
func isConst(words []string) bool {
	return len(words) > 1 && (words[1] == "real" || words[1] == "text")
}

// isHead tells whether a line is the head of a function.
func isHead(words []string) bool { return words[0] == "func" && len(words) != 2 }

// readPart takes in a line that lies in a function.
func (s *source) readPart(words []string) error {
	if len(s.funcs) == 0 {
		return api.ErrForm
	}
	f := s.funcs[len(s.funcs)-1]
	if name, ok := strings.CutSuffix(words[0], ":"); ok {
		return f.addLabel(name, words)
	}
	if words[0] == "handler" {
		return s.addHandler(f, words)
	}
	return s.addInstr(f, words)
}

// addConst takes in a constant.
func (s *source) addConst(words []string) error {
	if len(s.funcs) > 0 {
		return api.ErrForm
	}
	if err := count(words, 3); err != nil {
		return err
	}
	c, err := constOf(words[1], words[2])
	s.consts = append(s.consts, c)
	s.constAt = append(s.constAt, s.line)
	return err
}

// constOf is the constant of a kind that a word means.
func constOf(kind, word string) (api.Const, error) {
	if kind == "real" {
		bits, err := decimal.ParseReal(word)
		return api.Const{Kind: api.Real, N: int64(bits)}, fault(err)
	}
	text, ok := Unquote(word)
	if !ok {
		return api.Const{}, api.ErrText
	}
	return api.Const{Kind: api.Text, Text: text}, nil
}

// addHead begins a function.
func (s *source) addHead(words []string) error {
	if err := count(words, 4); err != nil {
		return err
	}
	params, err := decimal.ParseInt(words[2])
	if err != api.OK {
		return err
	}
	locals, err := decimal.ParseInt(words[3])
	if err != api.OK {
		return err
	}
	// A piece of the text would keep the whole of it.
	name := strings.Clone(words[1])
	if _, ok := s.first[name]; !ok {
		s.first[name] = len(s.funcs)
	}
	s.funcs = append(s.funcs, &function{
		Function: api.Function{Name: name, Params: int(params), Locals: int(locals)},
		headAt:   s.line,
		labels:   map[string]int{},
	})
	return nil
}

// addLabel names the place of the instruction that comes next.
func (f *function) addLabel(name string, words []string) error {
	if err := count(words, 1); err != nil {
		return err
	}
	if !rightName(name) {
		return api.ErrText
	}
	if _, ok := f.labels[name]; ok {
		return api.ErrTwice
	}
	f.labels[name] = len(f.Code)
	return nil
}

// addHandler takes in a handler.
func (s *source) addHandler(f *function, words []string) error {
	if err := count(words, 5); err != nil {
		return err
	}
	height, err := decimal.ParseInt(words[4])
	if err != api.OK {
		return err
	}
	h := len(f.Handlers)
	f.Handlers = append(f.Handlers, api.Handler{Height: int(height)})
	f.handlersAt = append(f.handlersAt, s.line)
	s.want(words[1], f.labels, func(n int) { f.Handlers[h].From = n })
	s.want(words[2], f.labels, func(n int) { f.Handlers[h].To = n })
	s.want(words[3], f.labels, func(n int) { f.Handlers[h].Target = n })
	return nil
}

// addInstr takes in an instruction.
func (s *source) addInstr(f *function, words []string) error {
	op, ok := code.Find(words[0])
	if !ok {
		return api.ErrOp
	}
	kind, _ := code.Operand(op)
	needs := 2
	if kind == code.Plain {
		needs = 1
	}
	if err := count(words, needs); err != nil {
		return err
	}
	a, err := s.operand(f, kind, words[1:])
	f.Code = append(f.Code, api.Instr{Op: op, A: a})
	f.codeAt = append(f.codeAt, s.line)
	return err
}

// operand is the number that the word behind the next instruction's operation means, if there is one; 0 for a name, till that is looked up.
func (s *source) operand(f *function, kind int, words []string) (int64, error) {
	among := f.labels
	switch kind {
	case code.Plain:
		return 0, nil
	case code.Funcs:
		among = s.first
		fallthrough
	case code.Place:
		pc := len(f.Code)
		s.want(words[0], among, func(n int) { f.Code[pc].A = int64(n) })
		return 0, nil
	}
	n, err := decimal.ParseInt(words[0])
	return n, fault(err)
}

// want puts a name down that is looked up when all lines are read.
func (s *source) want(name string, among map[string]int, take func(n int)) {
	s.wanted = append(s.wanted, want{s.line, name, among, take})
}

// settle gives each name that stands for a number its number; else it tells the first line that names what isn't there.
func (s *source) settle() (int, error) {
	for _, w := range s.wanted {
		n, ok := w.among[w.name]
		if !ok {
			return w.line, api.ErrLost
		}
		w.take(n)
	}
	return 0, nil
}

// program is what all lines have said.
func (s *source) program() api.Program {
	p := api.Program{Consts: s.consts}
	for _, f := range s.funcs {
		p.Funcs = append(p.Funcs, f.Function)
	}
	return p
}
