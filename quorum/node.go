package quorum

import (
	"math/bits"

	"strongbox/api"
)

// isNode tells whether there is a node of a number, of so many.
func isNode(id, n int) bool {
	return 0 <= id && id < n && n <= api.MaxNodes
}

// withMemory is an idle node that knows what it remembers, and no more.
func withMemory(id, n int, m memory) *Node {
	return &Node{id: id, n: n, memory: m, seen: m.promised}
}

// promise promises a ballot that is not below the one that was promised. Of another ballot the node can lead nobody any more.
func (q *Node) promise(ballot int) {
	q.promised, q.seen = ballot, max(q.seen, ballot)
	q.rest()
}

// rest lets the node be idle.
func (q *Node) rest() { q.asks, q.leads = nil, nil }

// nextBallot is the least of the node's ballots above the greatest that it has seen; it may be above all that there are.
func (q *Node) nextBallot() int {
	if q.seen < q.id {
		return q.id
	}
	return q.seen + api.MaxNodes - (q.seen-q.id)%api.MaxNodes
}

// to is a message to one node.
func (q *Node) to(id int, m message) string { return frame{q.id, id, m}.text() }

// toAllBut is a message to each node but some, by rising numbers.
func (q *Node) toAllBut(some nodes, m message) []string {
	var frames []string
	for id := range q.n {
		if !some.has(id) {
			frames = append(frames, q.to(id, m))
		}
	}
	return frames
}

// toOthers is a message to each other node, by rising numbers.
func (q *Node) toOthers(m message) []string { return q.toAllBut(only(q.id), m) }

// areEnough tells whether some nodes are more than half of all.
func (q *Node) areEnough(some nodes) bool { return 2*some.count() > q.n }

// nodes is some of the nodes: a bit for each.
type nodes uint8

func only(id int) nodes { return 1 << id }

func (s nodes) with(id int) nodes { return s | only(id) }

func (s nodes) has(id int) bool { return s&only(id) != 0 }

func (s nodes) count() int { return bits.OnesCount8(uint8(s)) }
