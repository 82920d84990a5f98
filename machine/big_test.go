package machine

import (
	"strings"
	"testing"

	"portage/api"
	"portage/states"
)

// All the fuel that there may be, among as many fibers as there may be.
func TestAllFuel(t *testing.T) {
	if testing.Short() {
		t.Skip("long")
	}
	p := parsed(t, "func main 0 1\nl:\nfunc f\nspawn 0\njump l\non:\nstore 0\nagain:\nyield\njump again\nhandler l on on 0\nfunc f 0 0\nl:\nyield\njump l")
	m := fresh(t, p, api.MaxFuel, 248)
	if n := m.Run(api.MaxFuel - 1); n != api.MaxFuel-1 || m.End().Kind != api.EndNone {
		t.Fatal(n, m.End())
	}
	if s := m.State(); len(s.Fibers) != api.MaxFibers || s.Spent != 248 || states.Check(p, factsOf(t, p), s) != api.OK {
		t.Error("fibers", len(s.Fibers), "spent", s.Spent)
	}
	if n := m.Run(9); n != 1 || m.End() != (api.End{Kind: api.EndFuel}) || m.Report().Steps != api.MaxFuel {
		t.Error(n, m.Report())
	}
}

// Every fiber as deep as it may be; then they come back, one behind the other.
func TestDeepFibers(t *testing.T) {
	p := parsed(t, strings.ReplaceAll(`func main 0 0
from: / func down / int 1 / spawn 1 / jump from / to: / pop / yield / yield / nil / ret / handler from to to 0
func down 1 1 / from: / func down / load 0 / int 1 / add / call 1 / to: / ret / over: / pop / yield / load 0 / ret / handler from to over 0`, " / ", "\n"))
	m := fresh(t, p, 99999, 999)
	deepest := 0
	for m.Step() {
		_, n := m.Top()
		deepest = max(deepest, n)
	}
	if deepest != api.MaxFrames || m.End() != (api.End{Kind: api.EndDone, Text: "nil"}) || m.Report().Steps < 31*99*5 {
		t.Error("at most", deepest, "frames;", m.Report())
	}
}

// A ring of fibers and channels, through which a number goes round.
func TestRing(t *testing.T) {
	p := parsed(t, strings.ReplaceAll(`func main 0 4
chan 1 / dup / store 0 / store 1 / int 0 / store 2
more: / chan 1 / store 3 / func pass / load 1 / load 3 / spawn 2 / load 3 / store 1
load 2 / int 1 / add / dup / store 2 / int 31 / lt / jnz more
load 0 / int 0 / send
again: / load 1 / recv / dup / print / dup / int 300 / lt / jz over / load 0 / swap / send / jump again
over: / ret
func pass 2 2 / l: / load 1 / load 0 / recv / int 1 / add / send / jump l`, " / ", "\n"))
	m := fresh(t, p, 99999, 9999)
	m.Run(99999)
	if got := strings.Join(m.Out(), " "); got != "31 62 93 124 155 186 217 248 279 310" || m.End() != (api.End{Kind: api.EndDone, Text: "310"}) {
		t.Error(got, m.Report().End, m.Report().Steps)
	}
}

// Replace does not look at all that a program has made: else it would take long here.
func TestReplaceAmongMany(t *testing.T) {
	p := parsed(t, "func main 0 1\nl:\narray 0\nstore 0\njump l")
	m := fresh(t, p, api.MaxFuel, 200000)
	if m.Run(299999); m.Core().World().Heap.Len() != 100000 {
		t.Fatal(m.Core().World().Heap.Len(), "objects")
	}
	for k := range int64(20000) {
		if !m.Replace([]api.Frame{frame(0, 1, val(api.Array, k), val(api.Array, 99999))}) {
			t.Fatal("Replace")
		}
	}
	if m.Replace([]api.Frame{frame(0, 1, val(api.Array, 100000), api.Value{})}) {
		t.Error("Replace with an object that is not there")
	}
}
