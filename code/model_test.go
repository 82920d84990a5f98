package code

import (
	"math"
	"math/rand"
	"strconv"
	"strings"
	"testing"

	"portage/api"
)

// table is the chapter's table of operations, word for word.
const table = `
| 0 | nop | Plain | 0 | 0 |
| 1, 2, 3 | nil, true, false | Plain | 0 | 1 |
| 4 | int | Number | 0 | 1 |
| 5 | const | Consts | 0 | 1 |
| 6 | func | Funcs | 0 | 1 |
| 7 | pop | Plain | 1 | 0 |
| 8 | dup | Plain | 1 | 2 |
| 9 | swap | Plain | 2 | 2 |
| 10 | load | Local | 0 | 1 |
| 11 | store | Local | 1 | 0 |
| 12, 13, 14, 15, 16 | add, sub, mul, div, rem | Plain | 2 | 1 |
| 17 | neg | Plain | 1 | 1 |
| 18, 19, 20 | and, or, xor | Plain | 2 | 1 |
| 21 | not | Plain | 1 | 1 |
| 22, 23 | shl, shr | Plain | 2 | 1 |
| 24 | ext | Width | 1 | 1 |
| 25, 26, 27, 28 | eq, ne, lt, le | Plain | 2 | 1 |
| 29, 30 | test, flip | Plain | 1 | 1 |
| 31, 32, 33, 34 | toint, toreal, single, totext | Plain | 1 | 1 |
| 35, 36, 37 | kind, floor, sqrt | Plain | 1 | 1 |
| 38 | cat | Plain | 2 | 1 |
| 39 | cut | Plain | 3 | 1 |
| 40 | jump | Place | 0 | 0 |
| 41, 42 | jz, jnz | Place | 1 | 0 |
| 43 | call | Count | n + 1 | 1 |
| 44, 45 | ret, throw | Plain | 1 | 0 |
| 46 | bind | Count | n + 1 | 1 |
| 47 | array | Count | n | 1 |
| 48 | record | Plain | 0 | 1 |
| 49 | get | Plain | 2 | 1 |
| 50 | set | Plain | 3 | 0 |
| 51 | push | Plain | 2 | 0 |
| 52 | len | Plain | 1 | 1 |
| 53 | getf | Consts | 1 | 1 |
| 54 | setf | Consts | 2 | 0 |
| 55 | hasf | Consts | 1 | 1 |
| 56 | delf | Consts | 1 | 0 |
| 57 | keys | Plain | 1 | 1 |
| 58 | print | Plain | 1 | 0 |
| 59 | read | Plain | 0 | 1 |
| 60 | spawn | Count | n + 1 | 0 |
| 61 | yield | Plain | 0 | 0 |
| 62 | chan | Room | 0 | 1 |
| 63 | send | Plain | 2 | 0 |
| 64 | recv | Plain | 1 | 1 |
| 65 | shut | Plain | 1 | 0 |
| 66 | bic | Plain | 2 | 1 |
`

// row is what the table says of one operation; takes and puts are its words.
type row struct {
	op          int
	name, kind  string
	takes, puts string
}

// rows are the table's operations.
func rows(t *testing.T) []row {
	t.Helper()
	var all []row
	for _, line := range strings.Split(strings.TrimSpace(table), "\n") {
		cell := strings.Split(strings.Trim(line, "| "), " | ")
		numbers, names := strings.Split(cell[0], ", "), strings.Split(cell[1], ", ")
		if len(cell) != 5 || len(numbers) != len(names) {
			t.Fatal("a line that is not read:", line)
		}
		for k := range numbers {
			op, err := strconv.Atoi(numbers[k])
			if err != nil || op != len(all) {
				t.Fatal("a number that is not read:", line)
			}
			all = append(all, row{op: op, name: names[k], kind: cell[2], takes: cell[3], puts: cell[4]})
		}
	}
	return all
}

// count is what a word of the table says, at an operand n.
func count(t *testing.T, word string, n int64) int {
	t.Helper()
	switch word {
	case "n":
		return int(n)
	case "n + 1":
		return int(n) + 1
	}
	x, err := strconv.Atoi(word)
	if err != nil {
		t.Fatal("a word that is not read:", word)
	}
	return x
}

// kinds are the numbers of the kinds' names.
func kinds() map[string]int {
	return map[string]int{"Plain": 0, "Number": 1, "Place": 2, "Local": 3, "Consts": 4, "Funcs": 5, "Count": 6, "Width": 7, "Room": 8}
}

// isRight is the chapter's table of operands, the limits written out.
func isRight(kind string, a int64) bool {
	switch kind {
	case "Plain":
		return a == 0
	case "Number":
		return true
	case "Place":
		return a >= 0 && a <= 1999
	case "Local", "Count":
		return a >= 0 && a <= 63
	case "Consts":
		return a >= 0 && a <= 511
	case "Funcs":
		return a >= 0 && a <= 127
	case "Width":
		return a == 8 || a == 16 || a == 32
	case "Room":
		return a >= 1 && a <= 64
	}
	panic(kind)
}

// operands are numbers about all the edges that some kind of operand has.
func operands() []int64 {
	l := []int64{math.MinInt64, math.MinInt64 + 1, math.MinInt32, -2000, math.MaxInt32, math.MaxInt64 - 1, math.MaxInt64, 1 << 32, 1<<32 + 8, 1<<62 + 1}
	for a := int64(-70); a <= 2100; a++ {
		l = append(l, a)
	}
	return l
}

// number is the form of a number by the words of chapter 1.
func number(x uint64) []byte {
	var b []byte
	for x >= 128 {
		b = append(b, byte(x%128)+128)
		x /= 128
	}
	return append(b, byte(x))
}

// formed is the form of one instruction by the chapter's words.
func formed(rows []row, i api.Instr) []byte {
	b := []byte{byte(i.Op)}
	switch rows[i.Op].kind {
	case "Plain":
		return b
	case "Number":
		if i.A >= 0 {
			return append(b, number(2*uint64(i.A))...)
		}
		return append(b, number(2*uint64(-(i.A+1))+1)...)
	}
	return append(b, number(uint64(i.A))...)
}

// isNumber reads the form of a number at the beginning of b, byte by byte: the number, how many bytes it has, the error.
func isNumber(b []byte) (uint64, int, api.Errno) {
	var x uint64
	for k := 0; ; k++ {
		switch {
		case k == len(b):
			return 0, 0, api.ErrShort
		case k == 9 && b[k] != 1, k > 0 && b[k] == 0:
			return 0, 0, api.ErrForm
		}
		x += uint64(b[k]%128) << (7 * k)
		if b[k] < 128 {
			return x, k + 1, api.OK
		}
	}
}

// decoded is Decode by the chapter's words.
func decoded(rows []row, b []byte) ([]api.Instr, api.Errno) {
	var l []api.Instr
	for len(b) > 0 {
		if len(l) == 2000 {
			return nil, api.ErrMany
		}
		i := api.Instr{Op: int(b[0])}
		if i.Op > 66 {
			return nil, api.ErrOp
		}
		kind := rows[i.Op].kind
		b = b[1:]
		if kind != "Plain" {
			x, n, err := isNumber(b)
			if err != api.OK {
				return nil, err
			}
			b = b[n:]
			if kind == "Number" {
				i.A = int64(x / 2)
				if x%2 == 1 {
					i.A = -i.A - 1
				}
			} else if x > 1<<40 {
				return nil, api.ErrOp
			} else {
				i.A = int64(x)
			}
		}
		if !isRight(kind, i.A) {
			return nil, api.ErrOp
		}
		l = append(l, i)
	}
	return l, api.OK
}

// someNumber is any number, of any length with the same chance.
func someNumber(r *rand.Rand) int64 {
	a := int64(r.Uint64() >> r.Intn(64))
	if r.Intn(2) == 0 {
		return -a
	}
	return a
}

// someInstr is any instruction that is right.
func someInstr(rows []row, r *rand.Rand) api.Instr {
	op := r.Intn(len(rows))
	i := api.Instr{Op: op}
	for rows[op].kind != "Plain" {
		switch rows[op].kind {
		case "Number":
			i.A = someNumber(r)
		case "Width":
			i.A = 8 << r.Intn(3)
		default:
			i.A = int64(r.Intn(2000))
		}
		if isRight(rows[op].kind, i.A) {
			break
		}
	}
	return i
}

// someList is a list of up to so many instructions that are right.
func someList(rows []row, r *rand.Rand, most int) []api.Instr {
	l := make([]api.Instr, r.Intn(most+1))
	for k := range l {
		l[k] = someInstr(rows, r)
	}
	return l
}
