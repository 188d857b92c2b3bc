package quorum_test

import (
	"fmt"
	"slices"
	"sync"
	"testing"
	"unsafe"

	"strongbox/api"
	"strongbox/quorum"
)

// lent is a text in memory that may be written over once it was handed in: who keeps it will say something else then.
type lent []byte

func lend(s string) lent { return lent(s) }

func (l lent) text() string { return unsafe.String(unsafe.SliceData(l), len(l)) }

// takesLent is a Take of a frame that is written over behind it.
func (x *tried) takesLent(s string) {
	x.t.Helper()
	l := lend(s)
	got, errno := x.is.Take(l.text())
	if string(l) != s {
		x.t.Fatalf("Take writes into %s", show(s))
	}
	clear(l)
	if want, wanted := x.model.take(s); !slices.Equal(got, want) || errno != wanted {
		x.t.Fatalf("Take of %s = %s, %d, want %s, %d", show(s), shown(got), errno, shown(want), wanted)
	}
	x.stands("a frame that was written over, " + show(s))
}

func TestR2FramesAreNotKept(t *testing.T) {
	x := tryNode(t, 0, 3)
	x.takesLent(accept(1, 0, 1, 0, "accepted"))
	x.takesLent(holds(1, 0, 1, "held"))
	x.startsWith(5)
	x.takesLent(promise(2, 0, 5, entry{2, 4, "told"}, entry{3, 0, longest}))
	x.takesLent(accepted(1, 0, 5, 2))
	x.takesLent(prepare(2, 0, 7))
	y := asks(t, 2, 5)
	y.takesLent(promise(1, 2, 2, entry{0, 1, "told first, and kept until enough have promised"}))
	y.takesLent(promise(0, 2, 2))
	y.takes(refuse(1, 2, 16))
	y.takesLent(ask(1, 2, 0))
}

func TestR2ValuesAreNotKept(t *testing.T) {
	x := leads(t, 0, 3)
	for place, value := range []string{"a", longest, ""} {
		l := lend(value)
		x.is.Offer(l.text())
		if string(l) != value {
			t.Fatal("Offer writes into the value")
		}
		clear(l)
		x.model.offer(value)
		x.stands("an Offer of a value that was written over")
		x.takes(accepted(1, 0, 0, place), holds(0, 1, place, value), holds(0, 2, place, value))
	}
}

func TestR2WhatIsLoadedIsNotKept(t *testing.T) {
	s := saved(1, 3, 7, []entry{{0, 7, "accepted"}}, []kept{{1, "held"}})
	l := lend(s)
	q, errno := quorum.Load(1, 3, l.text())
	if string(l) != s || errno != api.OK {
		t.Fatalf("Load = %d", errno)
	}
	clear(l)
	if got := q.Saved(); got != s {
		t.Errorf("Saved = %q, want %q", got, s)
	}
}

// writesOver writes over a list that came out, and its spare room.
func writesOver(l []string) {
	for i := range l[:cap(l)] {
		l[:cap(l)][i] = "written over"
	}
}

func TestR2WhatComesOutIsNewMemory(t *testing.T) {
	x := tryLoad(t, 1, 3, 5, []entry{{3, 5, "d"}}, []kept{{0, "a"}, {1, "b"}})
	over := func(what string, l []string) {
		t.Helper()
		writesOver(l)
		x.stands(what + ", a list of which was written over")
	}
	over("Ask", x.is.Ask())
	over("Row", x.is.Row())
	l, _ := x.start()
	over("Start", l)
	over("Again", x.is.Again())
	l, _ = x.take(promise(0, 1, 6, entry{2, 0, "c"}))
	over("Take of a PROMISE", l)
	over("Again", x.is.Again())
	_, l, _ = x.offer("e")
	over("Offer", l)
	l, _ = x.take(accepted(2, 1, 6, 2))
	over("Take of an ACCEPTED", l)
	l, _ = x.take(ask(2, 1, 0))
	over("Take of an ASK", l)
	l, _ = x.take(prepare(0, 1, 10))
	over("Take of a PREPARE", l)
	one, other := x.is.Row(), x.is.Row()
	writesOver(one)
	if !slices.Equal(other, []string{"a", "b", "c"}) {
		t.Error("two rows share memory")
	}
}

// A row that came out stays what it was.
func TestR2RowsAreNotWrittenInto(t *testing.T) {
	x := tryNode(t, 0, 1)
	x.starts()
	var rows [][]string
	for place := range 64 {
		rows = append(rows, x.is.Row())
		x.offers(fmt.Sprint(place), place)
	}
	for n, row := range rows {
		if len(row) != n || n > 0 && row[n-1] != fmt.Sprint(n-1) {
			t.Fatalf("the row of %d values is %q", n, row)
		}
	}
}

// Nodes know nothing of one another.
func TestR2OthersAreNotDisturbed(t *testing.T) {
	s := saved(1, 3, 5, []entry{{3, 5, "d"}}, []kept{{0, "a"}})
	one := tryLoad(t, 1, 3, 5, []entry{{3, 5, "d"}}, []kept{{0, "a"}})
	other := tryLoad(t, 1, 3, 5, []entry{{3, 5, "d"}}, []kept{{0, "a"}})
	third := tryNode(t, 0, 3)
	l, _ := one.start()
	one.take(promise(2, 1, 6, entry{4, 0, "e"}))
	one.offer("f")
	one.take(accepted(0, 1, 6, 1))
	other.stands("another one's calls")
	third.stands("another one's calls")
	third.take(l[0])
	one.stands("another one's Take")
	if q, errno := quorum.Load(1, 3, s); errno != api.OK || q.Saved() != s {
		t.Errorf("Load = %d", errno)
	}
}

// Many groups at once, each in a goroutine of its own: what is drawn alike comes out alike.
func TestR2ManyAtOnce(t *testing.T) {
	all := make([]string, 16)
	var group sync.WaitGroup
	for k := range all {
		group.Go(func() {
			g := newGroup(t, 3, 3)
			for range 200 {
				g.step(3)
			}
			all[k] = g.saved[0] + g.saved[1] + g.saved[2]
		})
	}
	group.Wait()
	for k, s := range all {
		if s != all[0] {
			t.Errorf("the group %d is not like the first one", k)
		}
	}
}
