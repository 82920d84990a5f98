package listing

import (
	"fmt"
	"strconv"
	"strings"

	"portage/api"
	"portage/asm"
	"portage/code"
	"portage/decimal"
)

// The chapter's words, slowly: for each place everything that may name it is gone through.

// toldProgram is the text of a well-formed program.
func toldProgram(p api.Program) string {
	s := ""
	for _, c := range p.Consts {
		if c.Kind == api.Real {
			s += "const real " + decimal.Real(uint64(c.N)) + "\n"
		} else {
			s += "const text " + asm.Quote(c.Text) + "\n"
		}
	}
	for _, f := range p.Funcs {
		s += fmt.Sprintf("func %s %d %d\n", f.Name, f.Params, f.Locals)
		for pc, i := range f.Code {
			if isNamed(f, pc) {
				s += fmt.Sprintf("L%d:\n", pc)
			}
			s += fmt.Sprintf("  %s\n", toldInstr(p, i))
		}
		for _, h := range f.Handlers {
			if h.To == len(f.Code) {
				s += fmt.Sprintf("L%d:\n", h.To)
				break
			}
		}
		for _, h := range f.Handlers {
			s += fmt.Sprintf("  handler L%d L%d L%d %d\n", h.From, h.To, h.Target, h.Height)
		}
	}
	return s
}

// isNamed tells whether a place of a function has a label.
func isNamed(f api.Function, pc int) bool {
	for _, i := range f.Code {
		if (i.Op == 40 || i.Op == 41 || i.Op == 42) && i.A == int64(pc) {
			return true
		}
	}
	for _, h := range f.Handlers {
		if h.From == pc || h.To == pc || h.Target == pc {
			return true
		}
	}
	return false
}

// toldInstr is the line of an instruction; "", if it has none.
func toldInstr(p api.Program, i api.Instr) string {
	if code.Check(i) != api.OK || i.Op == 6 && int(i.A) >= len(p.Funcs) {
		return ""
	}
	name, _ := code.Name(i.Op)
	switch i.Op {
	case 40, 41, 42:
		return fmt.Sprintf("%s L%d", name, i.A)
	case 6:
		return fmt.Sprintf("func %s", p.Funcs[i.A].Name)
	case 4, 5, 10, 11, 24, 43, 46, 47, 53, 54, 55, 56, 60, 62:
		return fmt.Sprintf("%s %d", name, i.A)
	}
	return name
}

// toldCode is the text of register code.
func toldCode(c api.Code) string {
	var s strings.Builder
	fmt.Fprintf(&s, "code %d %d\n", c.Fn, c.Regs)
	for k, b := range c.Blocks {
		fmt.Fprintf(&s, "block %d %d", k, b.PC)
		for _, n := range b.Next {
			fmt.Fprintf(&s, " %d", n)
		}
		s.WriteString("\n")
		for _, i := range b.Ins {
			what := fmt.Sprintf("op%d", i.Op)
			if i.Op >= 1 && i.Op <= 9 {
				what = whats()[i.Op-1]
			}
			operation := strconv.Itoa(i.Code)
			if name, ok := code.Name(i.Code); ok {
				operation = name
			}
			fmt.Fprintf(&s, "  %s %s %d %d %d %d :%s", what, operation, i.Dst, i.N, i.PC, i.Need, toldOpnds(i.Args))
			for _, e := range i.Exit {
				fmt.Fprintf(&s, " | %d %d%s", e.Fn, e.PC, toldOpnds(e.Slots))
			}
			s.WriteString("\n")
		}
	}
	return s.String()
}

// whats are the words for what an instruction is, from 1 on.
func whats() []string {
	return strings.Fields("move pure plain guard callee point jump branch leave")
}

// toldOpnds are the words of operands, a blank ahead of each.
func toldOpnds(l []api.Opnd) string {
	s := ""
	for _, o := range l {
		bits := uint64(o.N)
		isNaN := bits<<1 > 0x7ff<<53
		switch {
		case o.Kind == 0:
			s += fmt.Sprintf(" r%d", o.N)
		case o.Kind == 5:
			s += fmt.Sprintf(" c%d", o.N)
		case o.Kind == 6:
			s += fmt.Sprintf(" f%d", o.N)
		case o.Kind == 1 && o.N == 0:
			s += " nil"
		case o.Kind == 2 && (o.N == 0 || o.N == 1):
			s += fmt.Sprintf(" %v", o.N == 1)
		case o.Kind == 3:
			s += fmt.Sprintf(" %d", o.N)
		case o.Kind == 4 && (!isNaN || bits == 0x7ff8000000000000):
			s += " " + decimal.Real(bits)
		default:
			s += fmt.Sprintf(" %d:%d", o.Kind, o.N)
		}
	}
	return s
}

// readCode is the register code that a text is, if it is one of some: what is read back from all texts has no two texts alike.
func readCode(s string) api.Code {
	var c api.Code
	for _, line := range strings.Split(strings.TrimSuffix(s, "\n"), "\n") {
		words := strings.Split(strings.TrimPrefix(line, "  "), " ")
		switch {
		case words[0] == "code":
			c.Fn, c.Regs = readInt(words[1]), readInt(words[2])
		case words[0] == "block":
			b := api.Block{PC: readInt(words[2])}
			for _, w := range words[3:] {
				b.Next = append(b.Next, readInt(w))
			}
			c.Blocks = append(c.Blocks, b)
		default:
			b := &c.Blocks[len(c.Blocks)-1]
			b.Ins = append(b.Ins, readIns(words))
		}
	}
	return c
}

// readInt is a number.
func readInt(s string) int {
	n, err := strconv.ParseInt(s, 10, 64)
	if err != nil {
		panic(s)
	}
	return int(n)
}

// readIns is an instruction.
func readIns(words []string) api.RIns {
	var i api.RIns
	for k, w := range whats() {
		if w == words[0] {
			i.Op = k + 1
		}
	}
	if i.Op == 0 {
		i.Op = readInt(strings.TrimPrefix(words[0], "op"))
	}
	op, ok := code.Find(words[1])
	if !ok {
		op = readInt(words[1])
	}
	i.Code, i.Dst, i.N, i.PC, i.Need = op, readInt(words[2]), int64(readInt(words[3])), readInt(words[4]), readInt(words[5])
	to := &i.Args
	for words = words[7:]; len(words) > 0; words = words[1:] {
		if words[0] != "|" {
			*to = append(*to, readOpnd(words[0]))
			continue
		}
		i.Exit = append(i.Exit, api.Shape{Fn: readInt(words[1]), PC: readInt(words[2])})
		to = &i.Exit[len(i.Exit)-1].Slots
		words = words[2:]
	}
	return i
}

// readOpnd is an operand.
func readOpnd(w string) api.Opnd {
	if kind, n, ok := strings.Cut(w, ":"); ok {
		return api.Opnd{Kind: readInt(kind), N: int64(readInt(n))}
	}
	if n, e := decimal.ParseInt(w); e == api.OK {
		return api.Opnd{Kind: api.AtInt, N: n}
	}
	if n, e := decimal.ParseReal(w); e == api.OK {
		return api.Opnd{Kind: api.AtReal, N: int64(n)}
	}
	switch w {
	case "nil":
		return api.Opnd{Kind: api.AtNil}
	case "true":
		return api.Opnd{Kind: api.AtBool, N: 1}
	case "false":
		return api.Opnd{Kind: api.AtBool}
	}
	kind := map[byte]int{'r': api.AtReg, 'c': api.AtConst, 'f': api.AtFunc}[w[0]]
	return api.Opnd{Kind: kind, N: int64(readInt(w[1:]))}
}
