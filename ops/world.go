package ops

import "portage/api"

// do does an operation on as many values as it takes: what it gives, a trap, and whether there was room.
func (w *World) do(i api.Instr, args []api.Value) (api.Value, int, bool) {
	switch i.Op {
	case api.OpEq, api.OpNe, api.OpTest, api.OpFlip:
		return pure(i.Op, args), 0, true
	case api.OpLt, api.OpLe:
		return free(w.order(i, args))
	case api.OpToInt:
		return free(w.toInt(args[0]))
	case api.OpToReal:
		return free(w.toReal(args[0]))
	case api.OpToText:
		return w.give(Text(w, args[0]))
	case api.OpKind:
		return w.give(KindName(args[0].Kind))
	case api.OpCat:
		return w.cat(args[0], args[1])
	case api.OpCut:
		return w.cut(args[0], args[1], args[2])
	}
	if api.OpBind <= i.Op && i.Op <= api.OpShut {
		return w.doObject(i, args)
	}
	return free(reckon(i, args))
}

// doObject does an operation on objects.
func (w *World) doObject(i api.Instr, args []api.Value) (api.Value, int, bool) {
	switch i.Op {
	case api.OpArray:
		return made(w.Heap.Array(args))
	case api.OpRecord:
		return made(w.Heap.Record())
	case api.OpChan:
		return made(w.Heap.Chan(int(i.A)))
	case api.OpBind:
		return w.bind(args[0], args[1:])
	case api.OpGet:
		return free(w.get(args[0], args[1]))
	case api.OpSet:
		return free(w.set(args[0], args[1], args[2]))
	case api.OpLen:
		return free(w.size(args[0]))
	case api.OpPush:
		return done(w.Heap.Push(args[0], args[1]))
	case api.OpKeys:
		return w.Heap.Keys(args[0])
	case api.OpShut:
		return done(w.Heap.Shut(args[0]), true)
	}
	return w.doField(i, args)
}

// doField does an operation on a record's field.
func (w *World) doField(i api.Instr, args []api.Value) (api.Value, int, bool) {
	key := w.Program.Consts[i.A].Text
	switch i.Op {
	case api.OpSetf:
		return done(w.setField(args[0], key, args[1]))
	case api.OpGetf:
		return free(w.Heap.Field(args[0], w.keyOf(key)))
	case api.OpDelf:
		return done(w.Heap.Delete(args[0], w.keyOf(key)), true)
	}
	is, trap := w.Heap.Has(args[0], w.keyOf(key))
	return boolOf(is), trap, true
}

// free is the answer of what needs no room.
func free(v api.Value, trap int) (api.Value, int, bool) { return v, trap, true }

// made is the answer of what has no trap.
func made(v api.Value, room bool) (api.Value, int, bool) { return v, 0, room }

// done is the answer of what gives no value.
func done(trap int, room bool) (api.Value, int, bool) { return api.Value{}, trap, room }

// pure does an operation that is done to all values alike.
func pure(op int, args []api.Value) api.Value {
	switch op {
	case api.OpEq:
		return boolOf(same(args[0], args[1]))
	case api.OpNe:
		return boolOf(!same(args[0], args[1]))
	case api.OpTest:
		return boolOf(Truth(args[0]))
	}
	return boolOf(!Truth(args[0]))
}

// same tells whether two values are the same, of numbers: the same number.
func same(a, b api.Value) bool {
	if isNumber(a) && isNumber(b) {
		return number(a).equal(number(b))
	}
	return a == b
}
