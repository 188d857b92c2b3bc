package quorum_test

import (
	"slices"
	"strings"
	"testing"

	"strongbox/api"
	"strongbox/quorum"
)

// memories is what may be saved of the node 1 of three.
func memories() []string {
	values := []string{"", "v", longest, "\x00", "\xff\xff"}
	var out []string
	for _, promised := range []int{-1, 0, 1, 4, 254, 255, 256, 65534, 65535} {
		out = append(out, saved(1, 3, promised, nil, nil), saved(1, 3, promised, nil, []kept{{0, "a"}, {5, ""}, {63, longest}}))
		if promised < 0 {
			continue
		}
		for k, value := range values {
			out = append(out, saved(1, 3, promised, []entry{{k * 15, promised, value}, {63, 0, value}}, nil))
			out = append(out, saved(1, 3, promised, []entry{{0, promised / 2, value}}, []kept{{k, value}}))
		}
	}
	var all []kept
	for place := range 64 {
		all = append(all, kept{place, longest})
	}
	return append(out, saved(1, 3, -1, nil, all), saved(1, 3, 65535, manyEntries(64, 65535, longest), all), saved(1, 3, 0, manyEntries(64, 0, ""), nil))
}

func TestQ7LoadOfWhatWasSaved(t *testing.T) {
	for _, s := range memories() {
		q, errno := quorum.Load(1, 3, s)
		if q == nil || errno != api.OK {
			t.Fatalf("Load of %.60x = %v, %d", s, q, errno)
		}
		if got := q.Saved(); got != s {
			t.Errorf("Saved = %.60x, want %.60x", got, s)
		}
		if q.Leads() || len(q.Again()) != 0 {
			t.Errorf("of %.60x: it is not idle", s)
		}
	}
}

func TestQ7LoadOfEachNode(t *testing.T) {
	for n := 1; n <= 5; n++ {
		for id := range n {
			s := saved(id, n, 7, []entry{{3, 5, "three"}}, []kept{{3, "three"}, {4, ""}})
			x := tryLoad(t, id, n, 7, []entry{{3, 5, "three"}}, []kept{{3, "three"}, {4, ""}})
			x.startsWithAny()
			for m := 1; m <= 5; m++ {
				for other := range m {
					if m == n && other == id {
						continue
					}
					if q, errno := quorum.Load(other, m, s); q != nil || errno != api.ErrQuorumForm {
						t.Errorf("Load(%d, %d) of what the node %d of %d saved = %v, %d", other, m, id, n, q, errno)
					}
				}
			}
		}
	}
}

// startsWithAny is a Start above the promised ballot.
func (x *tried) startsWithAny() {
	x.t.Helper()
	want := firstAbove(x.model.id, x.model.promised)
	if x.model.n > 1 {
		x.startsWith(want)
		return
	}
	if _, errno := x.start(); errno != api.OK || x.model.promised != want {
		x.t.Fatalf("Start = %d, behind it %d is promised", errno, x.model.promised)
	}
}

func TestQ7LoadOfNoNode(t *testing.T) {
	for _, c := range noNodes {
		for _, s := range []string{saved(c[0]&255, c[1]&255, -1, nil, nil), saved(1, 3, -1, nil, nil), "", "x"} {
			if q, errno := quorum.Load(c[0], c[1], s); q != nil || errno != api.ErrQuorumNode {
				t.Errorf("Load(%d, %d) = %v, %d", c[0], c[1], q, errno)
			}
		}
	}
}

// noMemories is texts that no node 1 of three would save; all but those whose check is meant have a right one.
func noMemories() []string {
	out := []string{"", "QS", "Q", checked(""), checked("QS"), strings.Repeat("\x00", 4), strings.Repeat("\x00", 16), prepare(1, 0, 1), promise(1, 0, 0)}
	for _, c := range [][2]int{{0, 3}, {2, 3}, {1, 2}, {1, 4}, {1, 5}, {3, 1}, {1, 0}, {1, 255}, {255, 3}, {1, 6}} {
		out = append(out, saved(c[0], c[1], -1, nil, nil))
	}
	for _, promised := range []int{65536, 65537, 131071, 1<<31 - 1, 1 << 31, 1<<32 - 2} {
		out = append(out, saved(1, 3, promised, nil, nil), saved(1, 3, promised, []entry{{0, 1, ""}}, nil))
	}
	for _, e := range []entry{{0, 0, ""}, {0, 0, "v"}, {63, 65535, "v"}} {
		out = append(out, saved(1, 3, -1, []entry{e}, nil)) // entries without a promise
	}
	for _, c := range [][2]int{{0, 1}, {7, 8}, {7, 65535}, {7, 65536}, {7, 1 << 31}, {65534, 65535}, {65535, 65536}, {65535, 1<<32 - 1}} {
		e := entry{4, c[1], "v"} // above the promised one
		out = append(out, saved(1, 3, c[0], []entry{e}, nil), saved(1, 3, c[0], []entry{{0, 0, ""}, e, {5, 0, ""}}, []kept{{4, "v"}}))
	}
	return slices.Concat(out, wrongPlaces(), wrongMany(), otherMemories())
}

// wrongPlaces is memories whose places or values are none, or don't rise.
func wrongPlaces() []string {
	var out []string
	for _, l := range [][]int{{64}, {65}, {256}, {65535}, {0, 64}, {63, 64}, {1, 1}, {2, 1}, {0, 2, 1}, {5, 6, 6}, {63, 0}, {0, 0}} {
		var entries []entry
		var held []kept
		for k, place := range l {
			entries, held = append(entries, entry{place, k, "v"}), append(held, kept{place, "v"})
		}
		out = append(out, saved(1, 3, 7, entries, nil), saved(1, 3, 7, nil, held), saved(1, 3, -1, nil, held), saved(1, 3, 7, entries, held))
	}
	for _, long := range []int{401, 402, 512, 65535} {
		value := strings.Repeat("v", long)
		out = append(out, saved(1, 3, 7, []entry{{0, 0, value}}, nil), saved(1, 3, 7, nil, []kept{{0, value}}))
	}
	out = append(out, saved(1, 3, 7, manyEntries(65, 0, ""), nil), saved(1, 3, 7, append(manyEntries(64, 0, ""), entry{63, 0, ""}), nil))
	return out
}

// wrongMany is memories that have not as many entries or values, or not as long ones, as they tell.
func wrongMany() []string {
	head, entries, held := "QS\x01\x03"+num(8, 4), []entry{{1, 2, "v"}, {2, 7, "w"}}, []kept{{1, "v"}, {2, "w"}}
	var out []string
	for _, many := range []int{0, 1, 3, 258, 65535} {
		out = append(out, checked(head+num(many, 2)+entriesText(entries)[2:]+keptText(nil)), checked(head+num(0, 2)+num(many, 2)+keptText(held)[2:]), checked(head+num(many, 2)+entriesText(entries)[2:]+keptText(held)))
	}
	for _, said := range []string{num(5, 2) + "four", num(3, 2) + "four", num(1, 2), num(0, 2) + "v", num(65535, 2), "\x00", ""} {
		out = append(out, checked(head+num(1, 2)+num(0, 2)+num(2, 4)+said), checked(head+num(0, 2)+num(1, 2)+num(0, 2)+said), checked(head+num(1, 2)+num(0, 2)+num(2, 4)+said+num(0, 2)))
	}
	return append(out, checked(head+num(0, 2)), checked(head))
}

// otherMemories is right memories with other letters or checks, cut short, or longer.
func otherMemories() []string {
	var out []string
	for _, s := range []string{saved(1, 3, -1, nil, nil), saved(1, 3, 7, nil, nil), saved(1, 3, 7, []entry{{1, 2, "v"}, {5, 7, ""}}, []kept{{1, "v"}, {63, "w"}})} {
		body := s[:len(s)-4]
		for _, letters := range []string{"QM", "SQ", "qs", "Qs", "\x00\x00"} {
			out = append(out, again(letters+s[2:]))
		}
		for n := range len(s) {
			out = append(out, s[:n])
		}
		for n := range len(body) {
			out = append(out, checked(body[:n]))
		}
		for at := range s {
			for bit := range 8 {
				out = append(out, turned(s, at, bit))
			}
		}
		check := []byte(s[len(body):])
		slices.Reverse(check)
		out = append(out, s+"x", s+"\x00", s[1:], s+s, checked(s), checked(body+"x"), checked(body+"\x00"), checked(body+"\x00\x00"), body+"\x00\x00\x00\x00", body+string(check))
	}
	return out
}

func TestQ7LoadOfWhatNobodySaves(t *testing.T) {
	for _, s := range noMemories() {
		if q, errno := quorum.Load(1, 3, s); q != nil || errno != api.ErrQuorumForm {
			t.Errorf("Load of %x = %v, %d", s, q, errno)
		}
	}
}

// A node that does anything is loaded as one that is idle, with its promise, its entries and what it holds; it has seen what it has promised.
func TestQ7SavedAndLoaded(t *testing.T) {
	ofAll(t, func(x *tried, does int) {
		x.takes(holds(0, 1, 9, longest))
		if does == leading {
			x.offers("four", 4, proposes(1, 3, 11, 4, "four")...)
			x.takes(accepted(2, 1, 11, 1), holds(1, 0, 1, ""), holds(1, 2, 1, ""))
		}
		m := x.model
		y := tryLoad(t, 1, 3, m.promised, m.entries, m.held)
		y.doing(idle)
		y.doesNotOffer("v", api.ErrQuorumLead)
		y.takes(promise(0, 1, 11))
		y.takes(accepted(0, 1, 11, 2))
		y.takes(prepare(0, 1, 5), refuse(1, 0, m.promised))
		y.takes(prepare(0, 1, 15), promise(1, 0, 15, m.entries...))
		y.startsWith(16)
	})
}

// Of a ballot that was seen in a refusal nothing is saved.
func TestQ7WhatIsSeenIsNotSaved(t *testing.T) {
	x := tryNode(t, 0, 3)
	x.takes(refuse(1, 0, 65535))
	x.doesNotStart()
	if s := x.is.Saved(); s != saved(0, 3, -1, nil, nil) {
		t.Errorf("Saved = %q", s)
	}
	tryLoad(t, 0, 3, -1, nil, nil).startsWith(0)
}
