package quorum_test

import (
	"fmt"
	"testing"

	"strongbox/api"
)

// startsWith is a Start that must take this ballot.
func (x *tried) startsWith(ballot int) {
	x.t.Helper()
	x.starts(toOthers(x.model.id, x.model.n, func(to int) string { return prepare(x.model.id, to, ballot) })...)
}

func TestQ2StartOfOneThatHasSeenNothing(t *testing.T) {
	for n := 2; n <= 5; n++ {
		for id := range n {
			x := tryNode(t, id, n)
			for _, ballot := range []int{id, id + 5, id + 10, id + 15} {
				x.startsWith(ballot)
				x.doing(asking)
				if s := x.is.Saved(); s != saved(id, n, ballot, nil, nil) {
					t.Errorf("behind Start the ballot %d is not promised: %q", ballot, s)
				}
			}
		}
	}
}

// The chapter's third example.
func TestQ2StartExample(t *testing.T) {
	x := tryNode(t, 4, 5)
	x.startsWith(4)
	x.startsWith(9)
	x.takes(refuse(0, 4, 17))
	x.startsWith(19)
}

// However a node sees a ballot, and whatever it does then, it starts above that one, and above its own.
func TestQ2StartAboveWhatIsSeen(t *testing.T) {
	for id := range 5 {
		for ballot := range 25 {
			for k, see := range []func(x *tried){
				func(x *tried) { x.take(refuse((id+1)%5, id, ballot)) },
				func(x *tried) { x.take(prepare(ballot%5, id, ballot)) },
				func(x *tried) { x.take(accept(ballot%5, id, ballot, 0, "v")) },
			} {
				if k > 0 && ballot%5 == id {
					continue // nobody else sends that
				}
				for _, make := range []func(*testing.T, int, int) *tried{tryNode, asks, leads} {
					x := make(t, id, 5)
					own := x.model.seen
					see(x)
					x.startsWith(firstAbove(id, max(own, ballot)))
				}
			}
		}
	}
}

// firstAbove is the first ballot of a node above a number, or 0, if there is none.
func firstAbove(id, number int) int {
	for ballot := max(number+1, 0); ballot <= 65535; ballot++ {
		if ballot%5 == id {
			return ballot
		}
	}
	return 0
}

// What was seen in a refusal stays seen, whatever lower ballot is promised behind it; but it is not saved.
func TestQ2WhatIsSeenIsNotWhatIsPromised(t *testing.T) {
	x := tryNode(t, 3, 5)
	x.takes(refuse(2, 3, 17))
	x.takes(prepare(1, 3, 6), promise(3, 1, 6))
	x.takes(accept(2, 3, 7, 0, "a"), accepted(3, 2, 7, 0))
	x.takes(refuse(2, 3, 16))
	x.startsWith(18)
	x = tryNode(t, 3, 5)
	x.takes(prepare(1, 3, 6), promise(3, 1, 6))
	x.takes(refuse(2, 3, 17))
	x = tryLoad(t, 3, 5, x.model.promised, nil, nil)
	x.startsWith(8)
}

func TestQ2StartAtTheLastBallots(t *testing.T) {
	for id := range 5 {
		for seen := 65524; seen <= 65535; seen++ {
			other := (id + 1) % 5
			memory, refused, asked, led := tryLoad(t, id, 5, seen, nil, nil), tryNode(t, id, 5), asks(t, id, 5), leads(t, id, 5)
			for _, x := range []*tried{refused, asked, led} {
				x.takes(refuse(other, id, seen))
			}
			prepared := tryNode(t, id, 5)
			if seen%5 != id {
				prepared.takes(prepare(seen%5, id, seen), promise(id, seen%5, seen))
			} else {
				prepared = tryLoad(t, id, 5, seen-5, nil, nil)
				prepared.startsWith(seen)
				prepared.takes(refuse(other, id, seen))
			}
			for _, x := range []*tried{memory, refused, asked, led, prepared} {
				if want := firstAbove(id, seen); want > 0 {
					x.startsWith(want)
				} else {
					x.doesNotStart()
					x.doesNotStart()
				}
			}
		}
	}
}

// What is above the last ballot is in no frame, and so it is not seen.
func TestQ2BallotsAboveTheLastAreNotSeen(t *testing.T) {
	for _, ballot := range []int{65536, 65537, 1 << 31, 1<<32 - 1} {
		x := asks(t, 2, 5)
		x.refuses(refuse(0, 2, ballot))
		x.doing(asking)
		x.startsWith(7)
	}
}

// Behind the last ballot one that asks or leads does so still.
func TestQ2NoBallotLeftChangesNothing(t *testing.T) {
	x := tryLoad(t, 0, 3, 65530, []entry{{2, 7, "two"}}, nil)
	x.startsWith(65535)
	x.doesNotStart()
	x.doing(asking)
	x.takes(promise(1, 0, 65535), accept(0, 1, 65535, 0, ""), accept(0, 2, 65535, 0, ""), accept(0, 1, 65535, 1, ""), accept(0, 2, 65535, 1, ""), accept(0, 1, 65535, 2, "two"), accept(0, 2, 65535, 2, "two"))
	x.doesNotStart()
	x.doing(leading)
	x.takes(accepted(2, 0, 65535, 1), holds(0, 1, 1, ""), holds(0, 2, 1, ""))
	x.offers("three", 3, accept(0, 1, 65535, 3, "three"), accept(0, 2, 65535, 3, "three"))
	alone := tryLoad(t, 0, 1, 65530, nil, nil)
	alone.starts()
	alone.doesNotStart()
	alone.offers("value", 0)
}

// One that asks and starts again has to be promised anew; what was promised of the earlier ballot does not count.
func TestQ2StartOfOneThatAsks(t *testing.T) {
	x := asks(t, 1, 5)
	x.takes(promise(0, 1, 1, entry{0, 0, "zero"}))
	x.startsWith(6)
	x.takes(promise(2, 1, 1))
	x.takes(promise(3, 1, 1))
	x.takes(promise(0, 1, 6))
	x.doing(asking)
	x.takes(promise(4, 1, 6)) // nobody has told the entry with this ballot
	x.doing(leading)
	x.offers("a", 0, toOthers(1, 5, func(to int) string { return accept(1, to, 6, 0, "a") })...)
}

// One that leads and starts again leads no more; its own proposals are entries that it tells itself.
func TestQ2StartOfOneThatLeads(t *testing.T) {
	x := leads(t, 2, 3)
	x.offers("a", 0, accept(2, 0, 2, 0, "a"), accept(2, 1, 2, 0, "a"))
	x.offers("b", 1, accept(2, 0, 2, 1, "b"), accept(2, 1, 2, 1, "b"))
	x.takes(accepted(0, 2, 2, 1), holds(2, 0, 1, "b"), holds(2, 1, 1, "b"))
	x.startsWith(7)
	x.doing(asking)
	x.doesNotOffer("c", api.ErrQuorumLead)
	x.takes(accepted(1, 2, 2, 0))
	x.takes(promise(1, 2, 2))
	x.doing(asking)
	x.takes(promise(1, 2, 7), accept(2, 0, 7, 0, "a"), accept(2, 1, 7, 0, "a"))
	x.offers("c", 2, accept(2, 0, 7, 2, "c"), accept(2, 1, 7, 2, "c"))
}

// One that is alone leads at once, and holds what it proposes at once: what it has accepted, and gaps.
func TestQ2StartOfOneThatIsAlone(t *testing.T) {
	x := tryNode(t, 0, 1)
	x.starts()
	x.doing(leading)
	x.offers("a", 0)
	x.offers("", 1)
	x.starts()
	x.doing(leading)
	x.offers("c", 2)
	if s := x.is.Saved(); s != saved(0, 1, 5, []entry{{0, 0, "a"}, {1, 0, ""}, {2, 5, "c"}}, []kept{{0, "a"}, {1, ""}, {2, "c"}}) {
		t.Errorf("Saved = %q", s)
	}
	x = tryLoad(t, 0, 1, 8, []entry{{1, 3, "b"}, {2, 8, "other"}, {5, 0, "f"}}, []kept{{2, "c"}})
	x.starts()
	x.doing(leading)
	if s := x.is.Saved(); s != saved(0, 1, 10, []entry{{0, 10, ""}, {1, 10, "b"}, {2, 8, "other"}, {3, 10, ""}, {4, 10, ""}, {5, 10, "f"}}, []kept{{0, ""}, {1, "b"}, {2, "c"}, {3, ""}, {4, ""}, {5, "f"}}) {
		t.Errorf("Saved = %q", s)
	}
	x.offers("g", 6)
}

// Of each number of nodes: one leads just when more than half of all have promised, itself among them.
func TestQ3LeadsWhenEnoughHavePromised(t *testing.T) {
	enough := []int{0, 1, 2, 2, 3, 3}
	for n := 1; n <= 5; n++ {
		for id := range n {
			x := tryNode(t, id, n)
			x.startsWith(id)
			have := 1
			for _, from := range others(id, n) {
				if x.is.Leads() != (have >= enough[n]) {
					t.Fatalf("the node %d of %d: %d have promised, Leads = %v", id, n, have, x.is.Leads())
				}
				x.takes(promise(from, id, id))
				x.takes(promise(from, id, id)) // twice is once
				have++
			}
			x.doing(leading)
			x.offers(fmt.Sprint(n), 0, toOthers(id, n, func(to int) string { return accept(id, to, id, 0, fmt.Sprint(n)) })...)
		}
	}
}

func TestQ3LeadsWithNoneTold(t *testing.T) {
	x := leads(t, 0, 3)
	if s := x.is.Saved(); s != saved(0, 3, 0, nil, nil) {
		t.Errorf("Saved = %q", s)
	}
	x.offers("a", 0, accept(0, 1, 0, 0, "a"), accept(0, 2, 0, 0, "a"))
}

// proposes is the ACCEPTs of one node to all others, of values from a place on.
func proposes(id, n, ballot, place int, l ...string) []string {
	var out []string
	for k, value := range l {
		out = append(out, toOthers(id, n, func(to int) string { return accept(id, to, ballot, place+k, value) })...)
	}
	return out
}

func TestQ3GapsAreFilled(t *testing.T) {
	x := asks(t, 3, 5)
	x.takes(promise(4, 3, 3, entry{2, 1, "two"}))
	x.takes(promise(0, 3, 3, entry{5, 2, "five"}), proposes(3, 5, 3, 0, "", "", "two", "", "", "five")...)
	x.doing(leading)
	if s := x.is.Saved(); s != saved(3, 5, 3, []entry{{0, 3, ""}, {1, 3, ""}, {2, 3, "two"}, {3, 3, ""}, {4, 3, ""}, {5, 3, "five"}}, nil) {
		t.Errorf("Saved = %q", s)
	}
	x.offers("six", 6, proposes(3, 5, 3, 6, "six")...)
}

// Of several entries for one place the one with the greatest ballot is proposed, whoever told it, and when; of several with that ballot the first; the own one is ahead of all others.
func TestQ3TheGreatestBallotIsProposed(t *testing.T) {
	for _, c := range []struct {
		own           []entry
		first, second []entry
		want          string
	}{
		{nil, []entry{{0, 0, "a"}}, nil, "a"},
		{nil, nil, []entry{{0, 0, "a"}}, "a"},
		{nil, []entry{{0, 1, "a"}}, []entry{{0, 2, "b"}}, "b"},
		{nil, []entry{{0, 2, "a"}}, []entry{{0, 1, "b"}}, "a"},
		{nil, []entry{{0, 2, "a"}}, []entry{{0, 2, "b"}}, "a"},
		{nil, []entry{{0, 2, "b"}}, []entry{{0, 2, "a"}}, "b"},
		{nil, []entry{{0, 0, "b"}}, []entry{{0, 0, "a"}}, "b"},
		{[]entry{{0, 3, "own"}}, []entry{{0, 3, "a"}}, []entry{{0, 3, "b"}}, "own"},
		{[]entry{{0, 3, "own"}}, []entry{{0, 2, "a"}}, []entry{{0, 1, "b"}}, "own"},
		{[]entry{{0, 3, "own"}}, []entry{{0, 4, "a"}}, []entry{{0, 4, "b"}}, "a"},
		{[]entry{{0, 3, "own"}}, []entry{{0, 4, "a"}}, []entry{{0, 5, "b"}}, "b"},
		{[]entry{{0, 3, "own"}}, nil, []entry{{0, 4, "b"}}, "b"},
		{[]entry{{0, 0, "own"}}, []entry{{0, 0, "a"}}, nil, "own"},
		{[]entry{{0, 3, ""}}, []entry{{0, 3, "a"}}, []entry{{0, 2, "b"}}, ""},
		{[]entry{{0, 3, "own"}}, []entry{{0, 4, ""}}, []entry{{0, 4, "b"}}, ""},
		{nil, []entry{{0, 65535, "a"}}, []entry{{0, 256, "b"}}, "a"}, // above the ballot that it asks with, which no node would tell
		{[]entry{{0, 9, "own"}}, []entry{{0, 10, "a"}}, []entry{{0, 14, "b"}}, "b"},
	} {
		x := tryLoad(t, 2, 5, 9, c.own, nil)
		x.startsWith(12)
		x.takes(promise(4, 2, 12, c.first...))
		x.takes(promise(4, 2, 12, entry{0, 65535, "twice"}, entry{1, 0, "twice"}))
		x.takes(promise(1, 2, 12, c.second...), proposes(2, 5, 12, 0, c.want)...)
		x.takes(promise(0, 2, 12, entry{0, 65535, "late"}, entry{9, 0, "late"}))
		x.offers("next", 1, proposes(2, 5, 12, 1, "next")...)
	}
}

// Each place by itself: the greatest ballots may have been told by several.
func TestQ3EachPlaceByItself(t *testing.T) {
	x := tryLoad(t, 0, 5, 7, []entry{{0, 7, "own"}, {1, 1, "own"}, {3, 4, "own"}}, nil)
	x.startsWith(10)
	x.takes(promise(3, 0, 10, entry{0, 6, "a"}, entry{1, 4, "a"}, entry{2, 2, "a"}))
	x.takes(promise(1, 0, 10, entry{1, 2, "b"}, entry{2, 3, "b"}, entry{3, 4, "b"}, entry{5, 0, "b"}), proposes(0, 5, 10, 0, "own", "a", "b", "own", "", "b")...)
}

// What it holds already is not proposed; what is held furthest counts for the next place as well as what was told.
func TestQ3PlacesThatAreHeld(t *testing.T) {
	for _, c := range []struct {
		own  []entry
		held []kept
		told []entry
		want []string
		next int
	}{
		{nil, []kept{{0, "zero"}}, nil, nil, 1},
		{nil, []kept{{0, "zero"}}, []entry{{0, 3, "zero"}}, nil, 1},
		{nil, []kept{{0, "zero"}}, []entry{{0, 3, "other"}}, nil, 1},
		{[]entry{{0, 3, "other"}}, []kept{{0, "zero"}}, nil, nil, 1},
		{nil, []kept{{2, "two"}}, nil, proposes(1, 3, 6, 0, "", ""), 3},
		{nil, []kept{{2, "two"}}, []entry{{0, 0, "a"}}, proposes(1, 3, 6, 0, "a", ""), 3},
		{[]entry{{1, 3, "own"}}, []kept{{2, "two"}}, []entry{{0, 0, "a"}}, proposes(1, 3, 6, 0, "a", "own"), 3},
		{nil, []kept{{1, ""}}, []entry{{1, 0, "b"}, {2, 0, "c"}}, append(proposes(1, 3, 6, 0, ""), proposes(1, 3, 6, 2, "c")...), 3},
		{nil, []kept{{0, ""}, {1, "b"}, {4, "e"}}, []entry{{3, 0, "d"}}, proposes(1, 3, 6, 2, "", "d"), 5},
		{nil, []kept{{62, "v"}}, []entry{{60, 0, "w"}}, proposes(1, 3, 6, 0, append(make([]string, 60), "w", "")...), 63},
	} {
		x := tryLoad(t, 1, 3, 4, c.own, c.held)
		x.startsWith(6)
		x.takes(promise(2, 1, 6, c.told...), c.want...)
		x.doing(leading)
		x.offers("next", c.next, proposes(1, 3, 6, c.next, "next")...)
	}
}

// What it comes to hold while it asks counts too.
func TestQ3HeldWhileItAsks(t *testing.T) {
	x := asks(t, 0, 3)
	x.takes(holds(2, 0, 1, "held"))
	x.doing(asking)
	x.takes(promise(1, 0, 0, entry{1, 0, "told"}, entry{2, 0, "two"}), append(proposes(0, 3, 0, 0, ""), proposes(0, 3, 0, 2, "two")...)...)
	x.offers("three", 3, proposes(0, 3, 0, 3, "three")...)
}

// The last place: none is next behind it.
func TestQ3TheLastPlace(t *testing.T) {
	x := asks(t, 0, 2)
	x.takes(promise(1, 0, 0, entry{63, 0, longest}), proposes(0, 2, 0, 0, append(make([]string, 63), longest)...)...)
	x.doesNotOffer("more", api.ErrQuorumFull)
	x = asks(t, 0, 2)
	x.takes(promise(1, 0, 0, entry{62, 0, "v"}), proposes(0, 2, 0, 0, append(make([]string, 62), "v")...)...)
	x.offers("last", 63, accept(0, 1, 0, 63, "last"))
	x.doesNotOffer("more", api.ErrQuorumFull)
	x = asks(t, 0, 2)
	x.takes(holds(1, 0, 63, "held"))
	x.takes(promise(1, 0, 0), proposes(0, 2, 0, 0, make([]string, 63)...)...)
	x.doesNotOffer("more", api.ErrQuorumFull)
	x = asks(t, 0, 2)
	x.takes(promise(1, 0, 0, manyEntries(64, 0, longest)...), proposes(0, 2, 0, 0, make64(longest)...)...)
	x.doesNotOffer("more", api.ErrQuorumFull)
}

// make64 is one value for each place.
func make64(value string) []string {
	l := make([]string, 64)
	for k := range l {
		l[k] = value
	}
	return l
}
