package quorum_test

import (
	"fmt"
	"math/rand"
	"slices"
	"strings"
	"testing"

	"strongbox/api"
	"strongbox/quorum"
)

// group is some nodes, each beside its model, and the frames between them.
type group struct {
	t *testing.T
	*rand.Rand
	n       int
	nodes   []*tried // nil: it is down
	saved   []string // what each has saved behind its last call
	models  []*model // what that means
	flying  []string
	said    []string // all frames that were ever answered
	offered map[string]bool
	held    map[int]string   // what any node has ever held
	heldBy  []map[int]string // what each one has
	counts  map[string]int
}

func newGroup(t *testing.T, seed int64, n int) *group {
	g := &group{t: t, Rand: rand.New(rand.NewSource(seed)), n: n, offered: map[string]bool{"": true}, held: map[int]string{}, counts: map[string]int{}}
	for id := range n {
		x := tryNode(t, id, n)
		g.nodes, g.saved, g.models, g.heldBy = append(g.nodes, x), append(g.saved, x.is.Saved()), append(g.models, x.model), append(g.heldBy, map[int]string{})
	}
	return g
}

// behind is what is done behind each call of a node: what it answers is sent, what it has saved lasts, and what it holds is held to Q8.
func (g *group) behind(id int, frames []string) {
	g.t.Helper()
	x := g.nodes[id]
	g.flying, g.said = append(g.flying, frames...), append(g.said, frames...)
	g.saved[id] = x.is.Saved()
	has := map[int]string{}
	for place := range 64 {
		value, isHeld := x.is.Value(place)
		if !isHeld {
			continue
		}
		has[place] = value
		if other, isAny := g.held[place]; isAny && other != value {
			g.t.Fatalf("at the place %d the node %d holds %q, another one has held %q", place, id, value, other)
		}
		if !g.offered[value] {
			g.t.Fatalf("at the place %d the node %d holds %q, which nobody has offered", place, id, value)
		}
		g.held[place] = value
	}
	for place, value := range g.heldBy[id] {
		if now, isHeld := has[place]; !isHeld || now != value {
			g.t.Fatalf("at the place %d the node %d has held %q, now it holds %q, %v", place, id, value, now, isHeld)
		}
	}
	g.heldBy[id] = has
}

// take lets the node that a frame is for take it, if it is not down.
func (g *group) take(s string) {
	g.t.Helper()
	id, errno := quorum.To(s)
	if errno != api.OK {
		g.t.Fatalf("To of a frame that was answered, %s: %d", show(s), errno)
	}
	x := g.nodes[id]
	if x == nil {
		g.counts["lost"]++
		return
	}
	did := x.model.does
	frames, errno := x.take(s)
	if errno != api.OK {
		g.t.Fatalf("Take of a frame that was answered, %s: %d", show(s), errno)
	}
	if did != leading && x.model.does == leading {
		g.counts["leads"]++
		g.counts["proposed again"] += len(x.model.proposals)
	}
	if did != idle && x.model.does == idle {
		g.counts["gave up"]++
	}
	g.behind(id, frames)
}

func (g *group) start(id int) {
	g.t.Helper()
	if g.nodes[id] == nil {
		return
	}
	frames, errno := g.nodes[id].start()
	if errno != api.OK {
		g.t.Fatalf("Start of the node %d: %d", id, errno)
	}
	g.behind(id, frames)
}

// offer offers a value that no other offer has.
func (g *group) offer(id int) {
	g.t.Helper()
	if g.nodes[id] == nil {
		return
	}
	value := fmt.Sprintf("%d of %d", len(g.offered), id)
	if g.Intn(20) == 0 {
		value += strings.Repeat("v", 400-len(value))
	}
	_, frames, errno := g.nodes[id].offer(value)
	if errno == api.OK {
		g.offered[value] = true
		g.counts["offered"]++
	}
	g.behind(id, frames)
}

// goes down, or comes back with what was saved.
func (g *group) goes(id int) {
	g.t.Helper()
	if g.nodes[id] != nil {
		g.models[id], g.nodes[id] = g.nodes[id].model, nil
		g.counts["down"]++
		return
	}
	m := g.models[id]
	if m.saved() != g.saved[id] {
		g.t.Fatalf("the node %d has saved another thing than its model", id)
	}
	g.nodes[id] = tryLoad(g.t, id, g.n, m.promised, m.entries, m.held)
	g.behind(id, nil)
}

// away takes a frame off the ones that are flying: an early one, a late one, any.
func (g *group) away() string {
	k := 0
	if g.Intn(3) > 0 {
		k = g.Intn(len(g.flying))
	}
	s := g.flying[k]
	g.flying = slices.Delete(g.flying, k, k+1)
	return s
}

// leader is a node that leads, if one does, else another one.
func (g *group) leader(id int) int {
	for range g.n {
		if x := g.nodes[id]; x != nil && x.is.Leads() {
			break
		}
		id = (id + 1) % g.n
	}
	return id
}

// step is one drawn thing that may happen.
func (g *group) step(starters int) {
	g.t.Helper()
	id := g.Intn(g.n)
	switch k := g.Intn(100); {
	case k < 3:
		g.start(g.Intn(starters))
	case k < 5:
		g.offer(id)
	case k < 13:
		g.offer(g.leader(id))
	case k < 16 && g.nodes[id] != nil:
		g.flying = append(g.flying, g.nodes[id].is.Again()...)
	case k < 18 && g.nodes[id] != nil:
		g.flying = append(g.flying, g.nodes[id].is.Ask()...)
	case k < 20 && (g.nodes[id] == nil || g.Intn(2) == 0):
		g.goes(id)
	case k < 24 && len(g.said) > 0: // once more, however old it is
		g.take(g.said[g.Intn(len(g.said))])
	case k < 30 && len(g.flying) > 0:
		g.away()
		g.counts["lost"]++
	case len(g.flying) > 0:
		g.take(g.away())
	}
}

// all lets all frames be taken that are flying, and those that are answered then, in any order.
func (g *group) all() {
	g.t.Helper()
	for len(g.flying) > 0 {
		g.take(g.away())
	}
}

// goesOn is Q9: one node starts until it leads when all frames were taken; then it offers, and all hold that.
func (g *group) goesOn(id int) {
	g.t.Helper()
	for k := range g.nodes {
		if g.nodes[k] == nil {
			g.goes(k)
		}
	}
	g.start(id)
	g.all()
	for times := 0; !g.nodes[id].is.Leads(); times++ {
		if times > 10 {
			g.t.Fatal("it never leads")
		}
		g.start(id)
		g.all()
	}
	want := map[int]string{}
	for range 3 {
		value := fmt.Sprintf("at last %d", len(g.offered))
		place, frames, errno := g.nodes[id].offer(value)
		if errno == api.ErrQuorumFull {
			g.counts["full"]++
			break
		}
		if errno != api.OK {
			g.t.Fatalf("Offer = %d", errno)
		}
		g.offered[value], want[place] = true, value
		g.behind(id, frames)
		if g.Intn(2) == 0 {
			g.all()
		}
	}
	g.all()
	for place, value := range want {
		for k, x := range g.nodes {
			if v, isHeld := x.is.Value(place); v != value || !isHeld {
				g.t.Fatalf("the node %d holds %q, %v at the place %d, want %q", k, v, isHeld, place, value)
			}
		}
	}
}

// asked is what is made of a group in the end: by asking the others, all have the same row.
func (g *group) asked() {
	g.t.Helper()
	for _, x := range g.nodes {
		g.flying = append(g.flying, x.is.Ask()...)
	}
	g.all()
	for id, x := range g.nodes {
		if got, want := x.is.Row(), g.nodes[0].is.Row(); !slices.Equal(got, want) {
			g.t.Fatalf("the row of the node %d has %d values, the first one's %d", id, len(got), len(want))
		}
	}
}

// Groups of one to five, drawn step by step: Q8 (and DOC.md's P13) holds at each one, and Q9 at the end.
func TestQ8DrawnGroups(t *testing.T) {
	counts := map[string]int{}
	for n := 1; n <= 5; n++ {
		for seed := range int64(36) {
			g := newGroup(t, 100*seed+int64(n), n)
			steps := []int{60, 150, 400}[seed%3]
			for range steps {
				g.step(1 + int(seed)%n)
			}
			g.goesOn(g.Intn(n))
			g.asked()
			for what, k := range g.counts {
				counts[what] += k
			}
			counts["held"] += len(g.held)
		}
	}
	for what, least := range map[string]int{"lost": 1000, "leads": 500, "proposed again": 400, "gave up": 300, "offered": 1000, "down": 300, "held": 1000} {
		if counts[what] < least {
			t.Errorf("%s: %d times, which is too few for a test: %v", what, counts[what], counts)
		}
	}
}

// Groups whose row becomes full.
func TestQ8DrawnGroupsUntilTheyAreFull(t *testing.T) {
	full := 0
	for seed := range int64(6) {
		g := newGroup(t, 7000+seed, 3)
		for range 3000 {
			g.step(2)
		}
		g.goesOn(g.Intn(3))
		g.asked()
		full += g.counts["full"]
	}
	if full == 0 {
		t.Error("none has become full")
	}
}

// Two that start by turns, each ahead of what the other one is promised, keep one another from leading; as soon as one alone starts, it leads.
func TestQ9TwoThatStartByTurns(t *testing.T) {
	for n := 2; n <= 5; n++ {
		g := newGroup(t, int64(n), n)
		for turn := range 40 {
			late := g.flying
			g.flying = nil
			g.start(turn % 2)
			prepares := g.flying
			g.flying = nil
			for _, s := range append(prepares, late...) {
				g.take(s)
			}
			for id, x := range g.nodes {
				if x.is.Leads() {
					t.Fatalf("at the turn %d the node %d leads", turn, id)
				}
			}
		}
		g.goesOn(n - 1)
		g.asked()
		if l := g.nodes[0].is.Row(); len(l) != 3 {
			t.Errorf("Row = %q", l)
		}
	}
}

// What one alone holds is proposed by whoever leads next, though the one that holds it is down.
func TestQ8WhatIsHeldByOneIsProposedByTheNext(t *testing.T) {
	for first := range 5 {
		for next := range 5 {
			g := newGroup(t, int64(10*first+next), 5)
			g.start(first)
			g.all()
			g.offered["the value"] = true
			_, frames, _ := g.nodes[first].offer("the value")
			// Two others accept it, so that the first one holds it; it tells nobody, and is gone.
			for _, k := range g.Perm(4)[:2] {
				to, _ := quorum.To(frames[k])
				l, _ := g.nodes[to].take(frames[k])
				l, _ = g.nodes[first].take(l[0])
				g.behind(to, nil)
				g.behind(first, nil)
			}
			if v, isHeld := g.nodes[first].is.Value(0); v != "the value" || !isHeld {
				t.Fatalf("Value(0) = %q, %v", v, isHeld)
			}
			if first != next {
				g.goes(first)
			}
			g.start(next)
			g.all()
			for !g.nodes[next].is.Leads() {
				g.start(next)
				g.all()
			}
			g.offer(next)
			g.all()
			if l := g.nodes[next].is.Row(); len(l) != 2 || l[0] != "the value" {
				t.Fatalf("the node %d behind the node %d: Row = %q", next, first, l)
			}
		}
	}
}
