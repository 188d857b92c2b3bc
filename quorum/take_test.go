package quorum_test

import (
	"testing"

	"strongbox/api"
)

// knows is a node 1 of three that has promised 10 and knows something; it is idle, asks with 11, or leads with it.
func knows(t *testing.T, does int) *tried {
	t.Helper()
	x := tryLoad(t, 1, 3, 10, []entry{{0, 7, "zero"}, {2, 10, "two"}}, []kept{{0, "zero"}, {3, "three"}})
	if does == idle {
		return x
	}
	x.startsWith(11)
	if does == leading {
		x.takes(promise(0, 1, 11), append(proposes(1, 3, 11, 1, ""), proposes(1, 3, 11, 2, "two")...)...)
	}
	x.doing(does)
	return x
}

// ofAll is a test of a node that is idle, one that asks and one that leads.
func ofAll(t *testing.T, f func(x *tried, does int)) {
	t.Helper()
	for does := idle; does <= leading; does++ {
		f(knows(t, does), does)
	}
}

func TestQ5PrepareBelowWhatIsPromised(t *testing.T) {
	ofAll(t, func(x *tried, does int) {
		before, promised := x.is.Saved(), x.model.promised
		for _, from := range []int{0, 2} {
			for ballot := from; ballot < promised; ballot += 5 {
				x.takes(prepare(from, 1, ballot), refuse(1, from, promised))
				x.takes(accept(from, 1, ballot, 5, "v"), refuse(1, from, promised))
				x.takes(accept(from, 1, ballot, 2, "v"), refuse(1, from, promised))
			}
		}
		x.doing(does)
		if x.is.Saved() != before {
			t.Error("something came of what is refused")
		}
	})
}

// The same ballot may be promised again: of one that is idle, for what one asks or leads with nobody else has.
func TestQ5PrepareOfWhatIsPromised(t *testing.T) {
	x := knows(t, idle)
	for range 2 {
		x.takes(prepare(0, 1, 10), promise(1, 0, 10, entry{0, 7, "zero"}, entry{2, 10, "two"}))
	}
	for range 2 {
		x.takes(accept(0, 1, 10, 1, "one"), accepted(1, 0, 10, 1))
	}
	x.takes(accept(0, 1, 10, 0, "other"), accepted(1, 0, 10, 0))
	x.takes(prepare(0, 1, 10), promise(1, 0, 10, entry{0, 10, "other"}, entry{1, 10, "one"}, entry{2, 10, "two"}))
	first := tryNode(t, 4, 5)
	first.takes(prepare(0, 4, 0), promise(4, 0, 0))
	first.takes(prepare(0, 4, 0), promise(4, 0, 0))
	first.startsWith(4)
}

func TestQ5PrepareAboveWhatIsPromised(t *testing.T) {
	for _, c := range [][2]int{{2, 12}, {0, 15}, {2, 65532}, {0, 65535}} {
		ofAll(t, func(x *tried, does int) {
			from, ballot := c[0], c[1]
			entries := x.model.entries
			x.takes(prepare(from, 1, ballot), promise(1, from, ballot, entries...))
			x.doing(idle)
			if s := x.is.Saved(); s != saved(1, 3, ballot, entries, []kept{{0, "zero"}, {3, "three"}}) {
				t.Errorf("Saved = %q", s)
			}
			x.doesNotOffer("v", api.ErrQuorumLead)
			x.takes(promise(2, 1, 11))
			x.takes(accepted(2, 1, 11, 1))
			if want := firstAbove(1, ballot); want > 0 {
				x.startsWith(want)
			} else {
				x.doesNotStart()
			}
		})
	}
}

func TestQ5AcceptAboveWhatIsPromised(t *testing.T) {
	ofAll(t, func(x *tried, does int) {
		x.takes(accept(2, 1, 12, 63, longest), accepted(1, 2, 12, 63))
		x.doing(idle)
		x.takes(accept(2, 1, 12, 2, ""), accepted(1, 2, 12, 2))
		x.takes(accept(0, 1, 15, 0, "held already"), accepted(1, 0, 15, 0))
		x.takes(accept(2, 1, 12, 2, "late"), refuse(1, 2, 15))
		want := []entry{{0, 15, "held already"}, {2, 12, ""}, {63, 12, longest}}
		if does == leading {
			want = append(want[:1], entry{1, 11, ""}, entry{2, 12, ""}, entry{63, 12, longest})
		}
		if s := x.is.Saved(); s != saved(1, 3, 15, want, []kept{{0, "zero"}, {3, "three"}}) {
			t.Errorf("Saved = %q", s)
		}
		x.startsWith(16)
	})
}

// An ACCEPT alone, without a PREPARE ahead of it, promises its ballot.
func TestQ5AcceptPromises(t *testing.T) {
	x := tryNode(t, 2, 3)
	x.takes(accept(0, 2, 0, 1, "a"), accepted(2, 0, 0, 1))
	x.takes(accept(1, 2, 6, 1, "b"), accepted(2, 1, 6, 1))
	x.takes(accept(0, 2, 5, 1, "c"), refuse(2, 0, 6))
	x.takes(prepare(0, 2, 5), refuse(2, 0, 6))
	if s := x.is.Saved(); s != saved(2, 3, 6, []entry{{1, 6, "b"}}, nil) {
		t.Errorf("Saved = %q", s)
	}
}

// A PROMISE holds all entries, by rising places.
func TestQ5PromiseOfAllEntries(t *testing.T) {
	x := tryNode(t, 1, 5)
	var want []entry
	for k := range 64 {
		place := k * 37 % 64
		x.takes(accept(2, 1, 2, place, longest[:place]), accepted(1, 2, 2, place))
	}
	for place := range 64 {
		want = append(want, entry{place, 2, longest[:place]})
	}
	x.takes(prepare(4, 1, 4), promise(1, 4, 4, want...))
}

// Promises that do not count: of one that does not ask, of another ballot, the second one of one sender.
func TestQ5PromiseThatDoesNotCount(t *testing.T) {
	x := knows(t, idle)
	for _, ballot := range []int{1, 6, 11, 16} {
		x.takes(promise(0, 1, ballot, entry{5, 1, "v"}))
		x.takes(promise(2, 1, ballot))
	}
	x.startsWith(11)
	for _, ballot := range []int{1, 6, 16, 21, 65531} {
		x.takes(promise(0, 1, ballot, entry{5, 1, "v"}))
		x.takes(promise(2, 1, ballot, entry{5, 1, "v"}))
	}
	x.doing(asking)
	x.takes(promise(2, 1, 11), append(proposes(1, 3, 11, 1, ""), proposes(1, 3, 11, 2, "two")...)...)
	for _, from := range []int{2, 0} {
		x.takes(promise(from, 1, 11, entry{2, 10, "other"}, entry{5, 1, "v"}))
	}
	x.doing(leading)
	x.offers("four", 4, proposes(1, 3, 11, 4, "four")...)
}

func TestQ5PromiseTwiceByOneSender(t *testing.T) {
	x := asks(t, 0, 5)
	x.takes(promise(3, 0, 0, entry{0, 0, "a"}))
	x.takes(promise(3, 0, 0, entry{0, 1, "b"}, entry{1, 0, "b"}))
	x.doing(asking)
	x.takes(promise(1, 0, 0), proposes(0, 5, 0, 0, "a")...)
}

func TestQ5AcceptedByEnough(t *testing.T) {
	for n := 2; n <= 5; n++ {
		for id := range n {
			x := leads(t, id, n)
			x.offers("a", 0, proposes(id, n, id, 0, "a")...)
			x.offers("b", 1, proposes(id, n, id, 1, "b")...)
			for k, from := range others(id, n) {
				var want []string
				if k+2 == n/2+1 {
					want = toOthers(id, n, func(to int) string { return holds(id, to, 1, "b") })
				}
				x.takes(accepted(from, id, id, 1), want...)
				x.takes(accepted(from, id, id, 1)) // twice is once
			}
			if v, isHeld := x.is.Value(1); v != "b" || !isHeld {
				t.Errorf("the node %d of %d: Value(1) = %q, %v", id, n, v, isHeld)
			}
			if _, isHeld := x.is.Value(0); isHeld {
				t.Errorf("the node %d of %d holds what nobody has accepted", id, n)
			}
		}
	}
}

// Acceptances that do not count: of one that does not lead, of another ballot, of a place at which nothing was proposed, the second one of one sender.
func TestQ5AcceptedThatDoesNotCount(t *testing.T) {
	for does := idle; does <= asking; does++ {
		x := knows(t, does)
		for _, ballot := range []int{1, 6, 11, 16} {
			for place := range 64 {
				x.takes(accepted(0, 1, ballot, place))
			}
		}
		x.doing(does)
	}
	x := tryNode(t, 2, 5)
	x.startsWith(2)
	x.startsWith(7)
	x.takes(promise(0, 2, 7, entry{1, 2, "one"}))
	x.takes(promise(1, 2, 7), proposes(2, 5, 7, 0, "", "one")...)
	for _, from := range []int{0, 1, 3, 4} {
		for _, ballot := range []int{2, 12, 65532} {
			x.takes(accepted(from, 2, ballot, 1))
		}
		for _, place := range []int{2, 3, 62, 63} {
			x.takes(accepted(from, 2, 7, place))
		}
	}
	for range 3 {
		x.takes(accepted(3, 2, 7, 1))
	}
	// What was accepted ahead of the proposal does not count for it.
	x.offers("two", 2, proposes(2, 5, 7, 2, "two")...)
	x.takes(accepted(0, 2, 7, 2))
	x.takes(accepted(0, 2, 7, 1), toOthers(2, 5, func(to int) string { return holds(2, to, 1, "one") })...)
	x.takes(accepted(1, 2, 7, 1))
	x.takes(accepted(4, 2, 7, 1))
	if got := len(x.is.Row()); got != 0 {
		t.Errorf("Row has %d values", got)
	}
}

// What one leader has got accepted does not count for the next time that it leads.
func TestQ5AcceptedOfAnEarlierTime(t *testing.T) {
	x := leads(t, 0, 5)
	x.offers("a", 0, proposes(0, 5, 0, 0, "a")...)
	x.takes(accepted(1, 0, 0, 0))
	x.startsWith(5)
	x.takes(promise(2, 0, 5))
	x.takes(promise(3, 0, 5), proposes(0, 5, 5, 0, "a")...)
	x.takes(accepted(2, 0, 0, 0))
	x.takes(accepted(2, 0, 5, 0))
	x.takes(accepted(1, 0, 5, 0), toOthers(0, 5, func(to int) string { return holds(0, to, 0, "a") })...)
}

// A proposal whose place has come to be held: who has accepted it is noted, and nothing more is answered.
func TestQ5AcceptedOfWhatIsHeld(t *testing.T) {
	x := leads(t, 0, 3)
	x.offers("a", 0, proposes(0, 3, 0, 0, "a")...)
	x.takes(holds(1, 0, 0, "a"))
	x.takes(accepted(1, 0, 0, 0))
	x.takes(accepted(2, 0, 0, 0))
	x.doing(leading)
	if l := x.is.Again(); len(l) != 0 {
		t.Errorf("Again = %s", shown(l))
	}
}

func TestQ5Holds(t *testing.T) {
	ofAll(t, func(x *tried, does int) {
		for _, from := range []int{0, 2} {
			for _, place := range []int{0, 3, 4, 63} {
				x.takes(holds(from, 1, place, "of "+string(rune('0'+from))))
			}
		}
		x.takes(holds(0, 1, 5, longest))
		x.takes(holds(0, 1, 6, ""))
		x.takes(holds(2, 1, 6, "other"))
		x.doing(does)
		want := []kept{{0, "zero"}, {3, "three"}, {4, "of 0"}, {5, longest}, {6, ""}, {63, "of 0"}}
		if s := x.is.Saved(); s != saved(1, 3, x.model.promised, x.model.entries, want) {
			t.Errorf("Saved = %q", s)
		}
	})
}

// A refusal at or below what is seen changes nothing; one above it is seen, and who asks or leads is idle.
func TestQ5Refuse(t *testing.T) {
	ofAll(t, func(x *tried, does int) {
		before := x.is.Saved()
		for ballot := range x.model.promised + 1 {
			x.takes(refuse(0, 1, ballot))
			x.takes(refuse(2, 1, ballot))
		}
		x.doing(does)
		x.takes(refuse(2, 1, x.model.promised+1))
		x.doing(idle)
		x.takes(promise(0, 1, 11))
		x.takes(accepted(0, 1, 11, 1))
		if x.is.Saved() != before {
			t.Error("a refusal changes what is saved")
		}
		x.startsWith(16)
		x.takes(refuse(2, 1, 40))
		x.takes(refuse(0, 1, 22))
		x.startsWith(41)
	})
}

// A refusal of 0 by which the ballot 0 is seen first.
func TestQ5RefuseOfTheFirstBallot(t *testing.T) {
	x := tryNode(t, 0, 3)
	x.takes(refuse(1, 0, 0))
	x.startsWith(5)
	x = asks(t, 0, 3)
	x.takes(refuse(1, 0, 0))
	x.doing(asking)
	x.takes(refuse(1, 0, 1))
	x.doing(idle)
}

func TestQ5Ask(t *testing.T) {
	ofAll(t, func(x *tried, does int) {
		x.takes(holds(0, 1, 63, longest))
		x.takes(holds(0, 1, 4, ""))
		all := []kept{{0, "zero"}, {3, "three"}, {4, ""}, {63, longest}}
		for _, from := range []int{0, 2} {
			for _, place := range []int{0, 1, 2, 3, 4, 5, 62, 63, 64} {
				var want []string
				for _, h := range all {
					if h.place >= place {
						want = append(want, holds(1, from, h.place, h.value))
					}
				}
				x.takes(ask(from, 1, place), want...)
			}
		}
		x.doing(does)
	})
	x := tryNode(t, 0, 2)
	for place := range 65 {
		x.takes(ask(1, 0, place))
	}
}
