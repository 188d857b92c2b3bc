package quorum

// asking is what a node knows that asks with the ballot that it has promised.
type asking struct {
	promised nodes
	told     entries // of each place the one that has the greatest ballot, of several with it the one that was told first
}

// leading is what a node knows that leads with the ballot that it has promised.
type leading struct {
	accepted map[int]nodes // by the places of its proposals, whose values are the node's own entries
	next     int
}

// tell tells a node that asks that another one, or itself, has promised, with these entries.
func (q *Node) tell(id int, told entries) []string {
	if q.asks.promised.has(id) {
		return nil
	}
	q.asks.promised = q.asks.promised.with(id)
	q.asks.told.add(told)
	if !q.areEnough(q.asks.promised) {
		return nil
	}
	return q.lead(q.asks.told)
}

// lead lets the node lead: what may have been held somewhere is proposed once more, and all gaps ahead of the next place are filled.
func (q *Node) lead(told entries) []string {
	q.rest()
	q.leads = &leading{map[int]nodes{}, max(endOf(told), endOf(q.held))}
	var frames []string
	for place := range q.leads.next {
		if !q.isHeld(place) {
			frames = append(frames, q.propose(place, told[place].value)...)
		}
	}
	return frames
}

// propose proposes a value at a place.
func (q *Node) propose(place int, value string) []string {
	q.entries[place] = entry{q.promised, value}
	q.leads.accepted[place] = only(q.id)
	frames := q.toOthers(q.proposal(place))
	return append(frames, q.settle(place)...)
}

// proposal is what was proposed at a place, as it goes out.
func (q *Node) proposal(place int) accept {
	return accept{q.promised, place, q.entries[place].value}
}

// leadOn is what goes out when a node has accepted what was proposed at a place, if something was. Nothing does if it had already: what enough have accepted is held.
func (q *Node) leadOn(id, place int) []string {
	have, isProposed := q.leads.accepted[place]
	if !isProposed {
		return nil
	}
	q.leads.accepted[place] = have.with(id)
	return q.settle(place)
}

// settle holds what was proposed at a place, if enough have accepted it and nothing is held there.
func (q *Node) settle(place int) []string {
	if q.isHeld(place) || !q.areEnough(q.leads.accepted[place]) {
		return nil
	}
	value := q.entries[place].value
	q.hold(place, value)
	return q.toOthers(holds{place, value})
}

// proposeAgain is the proposals at places that are not held, to those that have not accepted them.
func (q *Node) proposeAgain() []string {
	var frames []string
	for _, place := range placesOf(q.leads.accepted) {
		if !q.isHeld(place) {
			frames = append(frames, q.toAllBut(q.leads.accepted[place], q.proposal(place))...)
		}
	}
	return frames
}
