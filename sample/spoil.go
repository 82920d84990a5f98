package sample

import "portage/api"

// turn gives a number another value, near or far.
func turn[T int | int64](r Source, n *T) {
	*n = T(one(r, int(*n)+1, int(*n)-1, Edge(r)))
}

func turnOpnd(r Source, o *api.Opnd) {
	if r.Intn(2) == 0 {
		turn(r, &o.Kind)
		return
	}
	turn(r, &o.N)
}

// resize lays the last one of a list there twice, or takes it or the first one away.
func resize[T any](r Source, l *[]T) {
	n := len(*l)
	if n == 0 {
		*l = append(*l, *new(T))
		return
	}
	*l = one(r, append(*l, (*l)[n-1]), (*l)[1:], (*l)[:n-1])
}

// Spoil turns one thing of register code, which may stay right.
func Spoil(r Source, c *api.Code) {
	if len(c.Blocks) > 0 && r.Intn(25) > 0 {
		spoilBlock(r, &c.Blocks[r.Intn(len(c.Blocks))])
		return
	}
	switch r.Intn(3) {
	case 0:
		turn(r, &c.Fn)
	case 1:
		turn(r, &c.Regs)
	default:
		resize(r, &c.Blocks)
	}
}

func spoilBlock(r Source, b *api.Block) {
	switch k := r.Intn(20); {
	case k == 0:
		turn(r, &b.PC)
	case k == 1:
		resize(r, &b.Ins)
	case k == 2:
		resize(r, &b.Next)
	case k < 5 && len(b.Next) > 0:
		turn(r, &b.Next[r.Intn(len(b.Next))])
	case k == 5 && len(b.Ins) > 0:
		n, m := r.Intn(len(b.Ins)), r.Intn(len(b.Ins))
		b.Ins[n], b.Ins[m] = b.Ins[m], b.Ins[n]
	case k == 6:
		for j := range b.Ins {
			b.Ins[j].Need = 0
		}
	case len(b.Ins) > 0:
		spoilIns(r, &b.Ins[r.Intn(len(b.Ins))])
	}
}

func spoilIns(r Source, i *api.RIns) {
	switch k := r.Intn(14); {
	case k == 0:
		turn(r, &i.Op)
	case k == 1:
		turn(r, &i.Code)
	case k == 2:
		turn(r, &i.Dst)
	case k == 3:
		turn(r, &i.N)
	case k == 4:
		turn(r, &i.Need)
	case k == 5:
		turn(r, &i.PC)
	case k == 6:
		resize(r, &i.Args)
	case k < 9 && len(i.Args) > 0:
		turnOpnd(r, &i.Args[r.Intn(len(i.Args))])
	case k == 9:
		resize(r, &i.Exit)
	case len(i.Exit) > 0:
		spoilShape(r, &i.Exit[r.Intn(len(i.Exit))])
	}
}

func spoilShape(r Source, s *api.Shape) {
	switch k := r.Intn(4); {
	case k == 0:
		turn(r, &s.Fn)
	case k == 1:
		turn(r, &s.PC)
	case k == 2:
		resize(r, &s.Slots)
	case len(s.Slots) > 0:
		turnOpnd(r, &s.Slots[r.Intn(len(s.Slots))])
	}
}
