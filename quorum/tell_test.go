package quorum_test

import (
	"math"
	"slices"
	"testing"

	"strongbox/quorum"
)

func (x *tried) says(want ...string) {
	x.t.Helper()
	if got := x.is.Again(); !slices.Equal(got, want) {
		x.t.Fatalf("Again = %s, want %s", shown(got), shown(want))
	}
}

func TestQ6AgainOfOneThatAsks(t *testing.T) {
	x := tryNode(t, 2, 5)
	x.says()
	x.startsWith(2)
	x.says(prepare(2, 0, 2), prepare(2, 1, 2), prepare(2, 3, 2), prepare(2, 4, 2))
	x.takes(promise(3, 2, 2))
	x.says(prepare(2, 0, 2), prepare(2, 1, 2), prepare(2, 4, 2))
	x.startsWith(7)
	x.takes(promise(3, 2, 2))
	x.says(prepare(2, 0, 7), prepare(2, 1, 7), prepare(2, 3, 7), prepare(2, 4, 7))
	x.takes(promise(4, 2, 7))
	x.says(prepare(2, 0, 7), prepare(2, 1, 7), prepare(2, 3, 7))
	x.takes(refuse(0, 2, 10))
	x.says()
}

// Of one that leads: nothing to those that have not promised; the proposals that are not held, by rising places, to those that have not accepted them.
func TestQ6AgainOfOneThatLeads(t *testing.T) {
	x := leads(t, 2, 5)
	x.says()
	for place, value := range []string{"a", "b", "", longest} {
		x.offers(value, place, proposes(2, 5, 2, place, value)...)
	}
	x.says(proposes(2, 5, 2, 0, "a", "b", "", longest)...)
	x.takes(accepted(0, 2, 2, 1))
	x.takes(accepted(4, 2, 2, 3))
	x.takes(accepted(1, 2, 2, 2))
	x.takes(accepted(3, 2, 2, 2), toOthers(2, 5, func(to int) string { return holds(2, to, 2, "") })...)
	want := slices.Concat(proposes(2, 5, 2, 0, "a"), proposes(2, 5, 2, 1, "b")[1:], proposes(2, 5, 2, 3, longest)[:3])
	x.says(want...)
	x.takes(holds(0, 2, 0, "a"))
	x.says(want[4:]...)
	x.takes(accepted(3, 2, 2, 1), toOthers(2, 5, func(to int) string { return holds(2, to, 1, "b") })...)
	x.takes(accepted(0, 2, 2, 3), toOthers(2, 5, func(to int) string { return holds(2, to, 3, longest) })...)
	x.says()
	x.offers("next", 4, proposes(2, 5, 2, 4, "next")...)
	x.says(proposes(2, 5, 2, 4, "next")...)
	x.takes(prepare(3, 2, 3), promise(2, 3, 3, x.model.entries...))
	x.says()
}

// Proposals of gaps and of what was told are said again too, where nothing is held.
func TestQ6AgainOfWhatWasTold(t *testing.T) {
	x := tryLoad(t, 0, 3, -1, nil, []kept{{1, "held"}})
	x.startsWith(0)
	x.takes(promise(2, 0, 0, entry{3, 0, "three"}), append(proposes(0, 3, 0, 0, ""), proposes(0, 3, 0, 2, "", "three")...)...)
	x.takes(accepted(1, 0, 0, 2), holds(0, 1, 2, ""), holds(0, 2, 2, ""))
	x.says(append(proposes(0, 3, 0, 0, ""), proposes(0, 3, 0, 3, "three")...)...)
}

func TestQ6AgainOfOneThatIsLoaded(t *testing.T) {
	tryLoad(t, 0, 3, 5, manyEntries(3, 5, "v"), nil).says()
}

func TestQ6Ask(t *testing.T) {
	x := tryNode(t, 1, 3)
	told := func(place int) {
		t.Helper()
		if got, want := x.is.Ask(), []string{ask(1, 0, place), ask(1, 2, place)}; !slices.Equal(got, want) {
			t.Fatalf("Ask = %s, want %s", shown(got), shown(want))
		}
	}
	told(0)
	for _, c := range [][2]int{{1, 0}, {63, 0}, {0, 2}, {3, 2}, {2, 4}} {
		x.takes(holds(0, 1, c[0], "v"))
		told(c[1])
	}
	for place := 62; place >= 4; place-- {
		told(4)
		x.takes(holds(0, 1, place, ""))
	}
	told(64)
	for n := 1; n <= 5; n++ {
		for id := range n {
			if got, want := tryNode(t, id, n).is.Ask(), toOthers(id, n, func(to int) string { return ask(id, to, 0) }); !slices.Equal(got, want) {
				t.Errorf("the node %d of %d: Ask = %s, want %s", id, n, shown(got), shown(want))
			}
		}
	}
}

func TestQ6Value(t *testing.T) {
	x := tryLoad(t, 1, 3, 5, []entry{{2, 5, "accepted alone"}}, []kept{{0, ""}, {1, "one"}, {63, longest}})
	for _, c := range []struct {
		place int
		value string
		is    bool
	}{
		{0, "", true}, {1, "one", true}, {63, longest, true}, {2, "", false}, {62, "", false}, {-1, "", false}, {64, "", false}, {65, "", false},
		{256, "", false}, {1 << 32, "", false}, {1<<32 + 1, "", false}, {-1 << 32, "", false}, {math.MaxInt, "", false}, {math.MinInt, "", false},
	} {
		if v, is := x.is.Value(c.place); v != c.value || is != c.is {
			t.Errorf("Value(%d) = %q, %v, want %q, %v", c.place, v, is, c.value, c.is)
		}
	}
}

func TestQ6Row(t *testing.T) {
	x := tryNode(t, 0, 2)
	row := func(want ...string) {
		t.Helper()
		if got := x.is.Row(); !slices.Equal(got, want) {
			t.Fatalf("Row = %q, want %q", got, want)
		}
	}
	row()
	x.takes(holds(1, 0, 1, "one"))
	row()
	x.takes(holds(1, 0, 3, ""))
	x.takes(holds(1, 0, 0, ""))
	row("", "one")
	x.takes(holds(1, 0, 2, "two"))
	row("", "one", "two", "")
	for place := 4; place < 64; place++ {
		x.takes(holds(1, 0, place, longest))
	}
	if l := x.is.Row(); len(l) != 64 || l[63] != longest {
		t.Errorf("Row has %d values", len(l))
	}
}

// What these calls tell changes nothing: neither what is saved nor what comes of the calls behind them.
func TestQ6NothingIsChanged(t *testing.T) {
	for _, make := range []func(*testing.T, int, int) *tried{tryNode, asks, leads} {
		one, other := make(t, 1, 3), make(t, 1, 3)
		if one.is.Leads() {
			one.offer("a")
			other.offer("a")
		}
		for range 10 {
			one.is.Leads()
			one.is.Again()
			one.is.Ask()
			one.is.Row()
			one.is.Saved()
			for place := -1; place <= 64; place++ {
				one.is.Value(place)
			}
		}
		frames := []string{accepted(0, 1, 1, 0), promise(2, 1, 1), holds(0, 1, 0, "a"), ask(0, 1, 0), prepare(2, 1, 7), accept(0, 1, 10, 4, "b")}
		for _, s := range frames {
			got, _ := one.take(s)
			want, _ := other.take(s)
			if !slices.Equal(got, want) || one.is.Saved() != other.is.Saved() {
				t.Errorf("Take of %s differs", show(s))
			}
		}
	}
}

// The chapter's first two examples, by three nodes that know of one another by frames alone.
func TestQ3ExampleOfThree(t *testing.T) {
	x := []*tried{tryNode(t, 0, 3), tryNode(t, 1, 3), tryNode(t, 2, 3)}
	x[0].starts(prepare(0, 1, 0), prepare(0, 2, 0))
	x[1].takes(prepare(0, 1, 0), promise(1, 0, 0))
	x[0].takes(promise(1, 0, 0))
	x[0].doing(leading)
	x[0].offers("a", 0, accept(0, 1, 0, 0, "a"), accept(0, 2, 0, 0, "a"))
	x[2].takes(accept(0, 2, 0, 0, "a"), accepted(2, 0, 0, 0))
	x[0].takes(accepted(2, 0, 0, 0), holds(0, 1, 0, "a"), holds(0, 2, 0, "a"))
	x[1].starts(prepare(1, 0, 1), prepare(1, 2, 1))
	x[2].takes(prepare(1, 2, 1), promise(2, 1, 1, entry{0, 0, "a"}))
	x[1].takes(promise(2, 1, 1, entry{0, 0, "a"}), accept(1, 0, 1, 0, "a"), accept(1, 2, 1, 0, "a"))
	x[1].doing(leading)
	x[0].takes(prepare(1, 0, 1), promise(0, 1, 1, entry{0, 0, "a"}))
	x[0].doing(idle)
	if to, errno := quorum.To(prepare(1, 0, 1)); to != 0 || errno != 0 {
		t.Errorf("To = %d, %d", to, errno)
	}
}
