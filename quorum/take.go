package quorum

// take does what a frame of another node says, and is what goes out then.
func (q *Node) take(f frame) []string {
	switch m := f.says.(type) {
	case prepare:
		return []string{q.takePrepare(f.from, m)}
	case promise:
		return q.takePromise(f.from, m)
	case accept:
		return []string{q.takeAccept(f.from, m)}
	case accepted:
		return q.takeAccepted(f.from, m)
	case holds:
		q.hold(m.place, m.value)
	case refuse:
		q.takeRefuse(m)
	case ask:
		return q.takeAsk(f.from, m)
	}
	return nil
}

func (q *Node) takePrepare(from int, m prepare) string {
	if q.promised > m.ballot {
		return q.to(from, refuse{q.promised})
	}
	q.promise(m.ballot)
	return q.to(from, promise{m.ballot, q.entries})
}

func (q *Node) takePromise(from int, m promise) []string {
	if q.asks == nil || m.ballot != q.promised {
		return nil
	}
	return q.tell(from, m.entries)
}

func (q *Node) takeAccept(from int, m accept) string {
	if q.promised > m.ballot {
		return q.to(from, refuse{q.promised})
	}
	q.promise(m.ballot)
	q.entries[m.place] = entry{m.ballot, m.value}
	return q.to(from, accepted{m.ballot, m.place})
}

func (q *Node) takeAccepted(from int, m accepted) []string {
	if q.leads == nil || m.ballot != q.promised {
		return nil
	}
	return q.leadOn(from, m.place)
}

func (q *Node) takeRefuse(m refuse) {
	q.seen = max(q.seen, m.ballot)
	// While it asks or leads, it does so with the ballot that it has promised itself; of one that is idle nothing changes.
	if m.ballot > q.promised {
		q.rest()
	}
}

func (q *Node) takeAsk(from int, m ask) []string {
	var frames []string
	for _, place := range placesOf(q.held) {
		if place >= m.place {
			frames = append(frames, q.to(from, holds{place, q.held[place].value}))
		}
	}
	return frames
}
