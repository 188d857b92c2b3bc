package quorum_test

import (
	"strings"
	"testing"

	"strongbox/api"
)

func TestQ4Offer(t *testing.T) {
	for n := 2; n <= 5; n++ {
		for id := range n {
			x := leads(t, id, n)
			for place, value := range []string{"a", "", "a", longest, strings.Repeat("\x00", 399), "\xff\xfe"} {
				x.offers(value, place, proposes(id, n, id, place, value)...)
			}
			x.doing(leading)
		}
	}
}

// Which error is answered: of what is too long that one, whatever the node does; then that it does not lead; then that no place is left.
func TestQ4OfferThatIsRefused(t *testing.T) {
	long := []string{longest + "v", strings.Repeat("v", 402), strings.Repeat("v", 1<<16)}
	full := asks(t, 0, 2)
	full.takes(promise(1, 0, 0, entry{63, 0, "v"}), proposes(0, 2, 0, 0, append(make([]string, 63), "v")...)...)
	loaded := tryLoad(t, 1, 3, 1, manyEntries(64, 1, "v"), nil)
	for _, x := range []*tried{tryNode(t, 0, 3), asks(t, 0, 3), leads(t, 0, 3), full, loaded} {
		for _, value := range long {
			x.doesNotOffer(value, api.ErrQuorumLong)
		}
	}
	for _, x := range []*tried{tryNode(t, 0, 3), asks(t, 0, 3), loaded, tryNode(t, 0, 1)} {
		for _, value := range []string{"", "v", longest} {
			x.doesNotOffer(value, api.ErrQuorumLead)
		}
	}
	for _, value := range []string{"", "v", longest} {
		full.doesNotOffer(value, api.ErrQuorumFull)
	}
	// One that was full, and is idle: it does not lead.
	full.takes(prepare(1, 0, 1), promise(0, 1, 1, full.model.entries...))
	full.doesNotOffer("v", api.ErrQuorumLead)
}

func TestQ4OfferUntilItIsFull(t *testing.T) {
	x := leads(t, 1, 3)
	for place := range 64 {
		x.offers(longest, place, proposes(1, 3, 1, place, longest)...)
	}
	x.doesNotOffer("more", api.ErrQuorumFull)
	x.doing(leading)
	// What is held does not matter for that.
	for place := range 64 {
		x.takes(accepted(2, 1, 1, place), holds(1, 0, place, longest), holds(1, 2, place, longest))
	}
	x.doesNotOffer("more", api.ErrQuorumFull)
	if l := x.is.Row(); len(l) != 64 {
		t.Errorf("Row has %d values", len(l))
	}
}

// One that is alone holds at once what it offers.
func TestQ4OfferOfOneThatIsAlone(t *testing.T) {
	x := tryNode(t, 0, 1)
	x.doesNotOffer("a", api.ErrQuorumLead)
	x.starts()
	for place := range 64 {
		x.offers(strings.Repeat("v", place), place)
		if v, isHeld := x.is.Value(place); v != strings.Repeat("v", place) || !isHeld {
			t.Fatalf("Value(%d) = %q, %v", place, v, isHeld)
		}
	}
	x.doesNotOffer("more", api.ErrQuorumFull)
}

// What has come to be held at the next place does not keep the node from proposing there; but it is not held twice, and not asked for again.
func TestQ4OfferAtAPlaceThatIsHeld(t *testing.T) {
	x := leads(t, 0, 3)
	x.takes(holds(1, 0, 0, "held"))
	x.takes(holds(1, 0, 2, "held too"))
	x.offers("a", 0, proposes(0, 3, 0, 0, "a")...)
	x.offers("b", 1, proposes(0, 3, 0, 1, "b")...)
	x.offers("c", 2, proposes(0, 3, 0, 2, "c")...)
	x.takes(accepted(1, 0, 0, 0))
	x.takes(accepted(2, 0, 0, 0))
	x.takes(accepted(2, 0, 0, 1), holds(0, 1, 1, "b"), holds(0, 2, 1, "b"))
	if s := x.is.Saved(); s != saved(0, 3, 0, []entry{{0, 0, "a"}, {1, 0, "b"}, {2, 0, "c"}}, []kept{{0, "held"}, {1, "b"}, {2, "held too"}}) {
		t.Errorf("Saved = %q", s)
	}
}
