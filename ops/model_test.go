package ops

import (
	"math/big"
	"slices"
	"strconv"
	"testing"

	"portage/api"
	"portage/code"
	"portage/decimal"
	"portage/heap"
	"portage/intern"
	"portage/real"
)

// model is a world by the chapter's words, slowly: each operation is done to a copy, what it costs is told apart from what it does, and the copy takes its place only where the operation is done.
type model struct {
	p             api.Program
	budget, spent int
	texts         []string
	objects       []api.Object
}

// noCost is the cost of what can't be made.
const noCost = -1

func (m *model) clone() *model {
	c := *m
	c.texts = slices.Clone(m.texts)
	c.objects = nil
	for _, o := range m.objects {
		o.Items, o.Keys = slices.Clone(o.Items), slices.Clone(o.Keys)
		c.objects = append(c.objects, o)
	}
	return &c
}

// world is a world that holds the same.
func (m *model) world(t *testing.T) *World {
	t.Helper()
	h, ok := heap.Load(m.budget, m.spent, m.objects)
	x, is := intern.From(m.texts...)
	if !ok || !is {
		t.Fatal("no such world")
	}
	return &World{Program: m.p, Heap: h, Texts: x}
}

// holds tells whether a world holds what the model does.
func (m *model) holds(w *World) bool {
	if w.Heap.Spent() != m.spent || w.Heap.Len() != len(m.objects) || !slices.Equal(w.Texts.Items(), m.texts) {
		return false
	}
	for i, o := range m.objects {
		got, _ := w.Heap.Object(i)
		if got.Kind != o.Kind || got.Fn != o.Fn || got.Cap != o.Cap || got.Shut != o.Shut || !slices.Equal(got.Keys, o.Keys) || !slices.Equal(got.Items, o.Items) {
			return false
		}
	}
	return true
}

func (m *model) apply(i api.Instr, args []api.Value) (api.Value, int, bool) {
	takes, _, right := code.Effect(i)
	if !right || !applies(i.Op) || len(args) != takes {
		return api.Value{}, 0, false
	}
	if i.Op >= 53 && i.Op <= 56 && (int(i.A) >= len(m.p.Consts) || m.p.Consts[i.A].Kind != api.Text) {
		return api.Value{}, 0, false
	}
	after := m.clone()
	v, trap, cost := after.do(i, args)
	switch {
	case trap != 0:
		return api.Value{}, trap, true
	case cost == noCost, cost > 0 && m.spent+cost > m.budget:
		return api.Value{}, 0, false
	}
	after.spent += cost
	*m = *after
	return v, 0, true
}

// applies, by the numbers of P13.2.
func applies(op int) bool {
	if op >= 12 && op <= 39 {
		return true
	}
	return slices.Contains([]int{46, 47, 48, 49, 50, 51, 52, 53, 54, 55, 56, 57, 62, 65, 66}, op)
}

// do answers what an operation gives, its trap and what it costs.
func (m *model) do(i api.Instr, a []api.Value) (api.Value, int, int) {
	switch i.Op {
	case api.OpEq, api.OpNe:
		return truthOf(modelSame(a[0], a[1]) == (i.Op == api.OpEq)), 0, 0
	case api.OpTest, api.OpFlip:
		return truthOf(modelTruth(a[0]) == (i.Op == api.OpTest)), 0, 0
	case api.OpLt, api.OpLe:
		return m.compare(i.Op, a[0], a[1])
	case api.OpToInt, api.OpToReal:
		return m.change(i.Op, a[0])
	case api.OpToText:
		return m.say(m.textOf(a[0]))
	case api.OpKind:
		return m.say(modelKind(a[0].Kind))
	case api.OpCat, api.OpCut:
		return m.doText(i.Op, a)
	}
	if i.Op >= 46 && i.Op <= 65 {
		return m.doObject(i, a)
	}
	v, trap := modelNumbers(i, a)
	return v, trap, 0
}

func truthOf(b bool) api.Value {
	if b {
		return api.Value{Kind: api.Bool, N: 1}
	}
	return api.Value{Kind: api.Bool, N: 0}
}

func modelTruth(v api.Value) bool {
	switch v.Kind {
	case 0:
		return false
	case 1:
		return v.N != 0
	}
	return true
}

func modelKind(kind int) string {
	names := []string{"nil", "bool", "int", "real", "text", "func", "array", "record", "bound", "chan"}
	if kind < 0 || kind > 9 {
		return ""
	}
	return names[kind]
}

// modelReal is the real of a number; false: it is no number.
func modelReal(v api.Value) (uint64, bool) {
	switch v.Kind {
	case api.Int:
		return real.FromInt(v.N), true
	case api.Real:
		return uint64(v.N), true
	}
	return 0, false
}

func modelSame(a, b api.Value) bool {
	x, first := modelReal(a)
	y, second := modelReal(b)
	if first && second && (a.Kind != api.Int || b.Kind != api.Int) {
		return real.Equal(x, y)
	}
	return a.Kind == b.Kind && a.N == b.N
}

// bytes are those of a text; false: it is none.
func (m *model) bytes(v api.Value) (string, bool) {
	if v.Kind != api.Text || v.N < 0 || v.N >= int64(len(m.texts)) {
		return "", false
	}
	return m.texts[v.N], true
}

// object is the object of a kind that a value names.
func (m *model) object(v api.Value, kind int) *api.Object {
	if v.Kind != kind || v.N < 0 || v.N >= int64(len(m.objects)) || m.objects[v.N].Kind != kind {
		return nil
	}
	return &m.objects[v.N]
}

func (m *model) compare(op int, a, b api.Value) (api.Value, int, int) {
	s, first := m.bytes(a)
	t, second := m.bytes(b)
	if first && second {
		below := func(s, t string) bool {
			for k := 0; k < len(t); k++ {
				if k == len(s) {
					return true
				}
				if s[k] != t[k] {
					return s[k] < t[k]
				}
			}
			return false
		}
		if op == api.OpLt {
			return truthOf(below(s, t)), 0, 0
		}
		return truthOf(!below(t, s)), 0, 0
	}
	x, first := modelReal(a)
	y, second := modelReal(b)
	if !first || !second {
		return api.Value{}, api.TrapType, 0
	}
	less, equal := real.Less(x, y), real.Equal(x, y)
	if a.Kind == api.Int && b.Kind == api.Int {
		c := big.NewInt(a.N).Cmp(big.NewInt(b.N))
		less, equal = c < 0, c == 0
	}
	return truthOf(less || equal && op == api.OpLe), 0, 0
}

func (m *model) change(op int, v api.Value) (api.Value, int, int) {
	s, is := m.bytes(v)
	switch {
	case is && op == api.OpToInt:
		n, err := decimal.ParseInt(s)
		if err != api.OK {
			return api.Value{}, api.TrapForm, 0
		}
		return api.Value{Kind: api.Int, N: n}, 0, 0
	case is:
		bits, err := decimal.ParseReal(s)
		if err != api.OK {
			return api.Value{}, api.TrapForm, 0
		}
		return api.Value{Kind: api.Real, N: int64(bits)}, 0, 0
	case op == api.OpToReal && v.Kind == api.Int:
		return api.Value{Kind: api.Real, N: int64(real.FromInt(v.N))}, 0, 0
	case op == api.OpToReal && v.Kind == api.Real, op == api.OpToInt && v.Kind == api.Int:
		return v, 0, 0
	case op == api.OpToInt && v.Kind == api.Bool && v.N == 0:
		return api.Value{Kind: api.Int, N: 0}, 0, 0
	case op == api.OpToInt && v.Kind == api.Bool:
		return api.Value{Kind: api.Int, N: 1}, 0, 0
	case op == api.OpToInt && v.Kind == api.Real:
		n, ok := real.ToInt(uint64(v.N))
		if !ok {
			return api.Value{}, api.TrapRange, 0
		}
		return api.Value{Kind: api.Int, N: n}, 0, 0
	}
	return api.Value{}, api.TrapType, 0
}

// number is the number of a text, which gets the next one, if it is new.
func (m *model) number(s string) int64 {
	if n := slices.Index(m.texts, s); n >= 0 {
		return int64(n)
	}
	m.texts = append(m.texts, s)
	return int64(len(m.texts) - 1)
}

func (m *model) say(s string) (api.Value, int, int) {
	return api.Value{Kind: api.Text, N: m.number(s)}, 0, 1 + len(s)
}

func (m *model) doText(op int, a []api.Value) (api.Value, int, int) {
	s, first := m.bytes(a[0])
	if op == api.OpCat {
		t, second := m.bytes(a[1])
		switch {
		case !first || !second:
			return api.Value{}, api.TrapType, 0
		case len(s)+len(t) > 4096:
			return api.Value{}, api.TrapRange, 0
		}
		return m.say(s + t)
	}
	if !first || a[1].Kind != api.Int || a[2].Kind != api.Int {
		return api.Value{}, api.TrapType, 0
	}
	if 0 <= a[1].N && a[1].N <= a[2].N && a[2].N <= int64(len(s)) {
		return m.say(s[a[1].N:a[2].N])
	}
	return api.Value{}, api.TrapIndex, 0
}

// lay makes an object.
func (m *model) lay(o api.Object, cost int) (api.Value, int, int) {
	if len(o.Items) > 4096 {
		return api.Value{}, 0, noCost
	}
	o.Items = slices.Clone(o.Items)
	m.objects = append(m.objects, o)
	return api.Value{Kind: o.Kind, N: int64(len(m.objects) - 1)}, 0, cost
}

func (m *model) doObject(i api.Instr, a []api.Value) (api.Value, int, int) {
	switch i.Op {
	case api.OpArray:
		return m.lay(api.Object{Kind: api.Array, Items: a}, 2+len(a))
	case api.OpRecord:
		return m.lay(api.Object{Kind: api.Record}, 2)
	case api.OpChan:
		return m.lay(api.Object{Kind: api.Chan, Cap: int(i.A)}, 2+int(i.A))
	case api.OpBind:
		return m.bind(a[0], a[1:])
	case api.OpGet, api.OpSet, api.OpPush:
		return m.doArray(i.Op, a)
	case api.OpLen:
		s, is := m.bytes(a[0])
		if is {
			return api.Value{Kind: api.Int, N: int64(len(s))}, 0, 0
		}
		for _, kind := range []int{api.Array, api.Record, api.Chan} {
			if o := m.object(a[0], kind); o != nil {
				return api.Value{Kind: api.Int, N: int64(len(o.Items))}, 0, 0
			}
		}
		return api.Value{}, api.TrapType, 0
	case api.OpShut:
		o := m.object(a[0], api.Chan)
		switch {
		case o == nil:
			return api.Value{}, api.TrapType, 0
		case o.Shut:
			return api.Value{}, api.TrapClosed, 0
		}
		o.Shut = true
		return api.Value{}, 0, 0
	}
	return m.doRecord(i, a)
}

func (m *model) bind(f api.Value, more []api.Value) (api.Value, int, int) {
	var o api.Object
	switch b := m.object(f, api.Bound); {
	case b != nil:
		o = *b
	case f.Kind == api.Func && f.N >= 0 && f.N < int64(len(m.p.Funcs)):
		o = api.Object{Kind: api.Bound, Fn: int(f.N)}
	default:
		return api.Value{}, api.TrapType, 0
	}
	if o.Fn >= len(m.p.Funcs) {
		return api.Value{}, api.TrapType, 0
	}
	o.Items = slices.Concat(o.Items, more)
	if len(o.Items) > m.p.Funcs[o.Fn].Params {
		return api.Value{}, api.TrapArity, 0
	}
	return m.lay(o, 2+len(o.Items))
}

func (m *model) doArray(op int, a []api.Value) (api.Value, int, int) {
	o := m.object(a[0], api.Array)
	if op == api.OpPush {
		switch {
		case o == nil:
			return api.Value{}, api.TrapType, 0
		case len(o.Items) == 4096:
			return api.Value{}, api.TrapRange, 0
		}
		o.Items = append(o.Items, a[1])
		return api.Value{}, 0, 1
	}
	s, is := m.bytes(a[0])
	is = is && op == api.OpGet
	n := len(s)
	if o != nil {
		n = len(o.Items)
	}
	switch {
	case o == nil && !is || a[1].Kind != api.Int:
		return api.Value{}, api.TrapType, 0
	case a[1].N < 0 || a[1].N >= int64(n):
		return api.Value{}, api.TrapIndex, 0
	case is:
		return api.Value{Kind: api.Int, N: int64(s[a[1].N])}, 0, 0
	case op == api.OpGet:
		return o.Items[a[1].N], 0, 0
	}
	o.Items[a[1].N] = a[2]
	return api.Value{}, 0, 0
}

func (m *model) doRecord(i api.Instr, a []api.Value) (api.Value, int, int) {
	o := m.object(a[0], api.Record)
	if o == nil {
		return api.Value{}, api.TrapType, 0
	}
	if i.Op == api.OpKeys {
		var items []api.Value
		for _, key := range o.Keys {
			items = append(items, api.Value{Kind: api.Text, N: key})
		}
		return m.lay(api.Object{Kind: api.Array, Items: items}, 2+len(items))
	}
	// Sought by its bytes, not by its number, so that a text that the world has not is simply not found.
	text, at := m.p.Consts[i.A].Text, -1
	for k, key := range o.Keys {
		if m.texts[key] == text {
			at = k
		}
	}
	switch {
	case i.Op == api.OpHasf:
		return truthOf(at >= 0), 0, 0
	case i.Op == api.OpSetf && at >= 0:
		o.Items[at] = a[1]
		return api.Value{}, 0, 0
	case i.Op == api.OpSetf && len(o.Keys) == 256:
		return api.Value{}, api.TrapRange, 0
	case i.Op == api.OpSetf:
		o.Keys, o.Items = append(o.Keys, m.number(text)), append(o.Items, a[1])
		return api.Value{}, 0, 2
	case at < 0:
		return api.Value{}, api.TrapKey, 0
	case i.Op == api.OpGetf:
		return o.Items[at], 0, 0
	}
	o.Keys, o.Items = slices.Delete(o.Keys, at, at+1), slices.Delete(o.Items, at, at+1)
	return api.Value{}, 0, 0
}

// textOf is a value's text, by the document's words and P13.4.
func (m *model) textOf(v api.Value) string {
	name := func(fn int64) string {
		if fn < 0 || fn >= int64(len(m.p.Funcs)) {
			return ""
		}
		return m.p.Funcs[fn].Name
	}
	s := ""
	switch v.Kind {
	case api.Nil, api.Bool:
		return map[bool]string{true: "true", false: map[int]string{0: "nil", 1: "false"}[v.Kind]}[modelTruth(v)]
	case api.Int:
		return strconv.FormatInt(v.N, 10)
	case api.Real:
		return decimal.Real(uint64(v.N))
	case api.Text:
		s, _ := m.bytes(v)
		return s
	case api.Func:
		s = name(v.N)
	case api.Array, api.Record, api.Chan:
		if o := m.object(v, v.Kind); o != nil {
			s = strconv.Itoa(len(o.Items))
		}
	case api.Bound:
		if o := m.object(v, v.Kind); o != nil {
			s = name(int64(o.Fn))
		}
	default:
		return ""
	}
	return modelKind(v.Kind) + "(" + s + ")"
}
