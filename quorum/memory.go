package quorum

import (
	"maps"
	"slices"

	"strongbox/api"
	"strongbox/pack"
)

// noBallot is no ballot: below all that there are.
const noBallot = -1

// What begins that which a node has saved.
const savedLetters = "QS"

// memory is what a node saves.
type memory struct {
	promised int // or noBallot
	entries  entries
	held     values
}

// entry is a value that was accepted, and by which ballot.
type entry struct {
	ballot int
	value  string
}

// entries is such ones by their places.
type entries map[int]entry

// held is a value that is held.
type held struct{ value string }

// values is such ones by their places.
type values map[int]held

// text is what is saved of the node of a number, of so many.
func (m memory) text(id, n int) string {
	w := pack.NewWriter()
	w.Raw(savedLetters)
	w.Num(smallWidth, id, n)
	w.Num(ballotWidth, m.promised+1)
	m.entries.lay(w)
	m.held.lay(w)
	return checked(w)
}

// readMemory takes a memory off what was saved. Of another text it is some memory, whose text is another one, or that may not be.
func readMemory(saved string) memory {
	r := pack.NewReader(saved)
	r.Raw(len(savedLetters))
	r.Num(smallWidth)
	r.Num(smallWidth)
	return memory{r.Num(ballotWidth) - 1, readEntries(r), readValues(r)}
}

// mayBe tells whether a node may remember that: it has no ballot above the one that it has promised.
func (m memory) mayBe() bool {
	if m.promised > api.MaxBallot {
		return false
	}
	for _, e := range m.entries {
		if e.ballot > m.promised {
			return false
		}
	}
	return m.entries.mayBe() && m.held.mayBe()
}

// isHeld tells whether something is held at a place.
func (m memory) isHeld(place int) bool {
	_, is := m.held[place]
	return is
}

// hold holds a value at a place for good, if nothing is held there.
func (m memory) hold(place int, value string) {
	if !m.isHeld(place) {
		m.held[place] = held{value}
	}
}

// add adds other entries, but where there is one whose ballot is not below.
func (l entries) add(others entries) {
	for place, e := range others {
		if is, isThere := l[place]; !isThere || e.ballot > is.ballot {
			l[place] = e
		}
	}
}

func (l entries) mayBe() bool {
	for place, e := range l {
		if !isPlace(place) || !isBallot(e.ballot) || !isValue(e.value) {
			return false
		}
	}
	return true
}

// lay lays down how many entries there are, and these, by rising places.
func (l entries) lay(w *pack.Writer) {
	w.Num(countWidth, len(l))
	for _, place := range placesOf(l) {
		w.Num(placeWidth, place)
		w.Num(ballotWidth, l[place].ballot)
		layValue(w, l[place].value)
	}
}

// readEntries takes what lay lays down. Of more entries than there are places, or of such as do not rise, some are left out: what comes of that would be laid down in another way.
func readEntries(r *pack.Reader) entries {
	l := entries{}
	for range min(r.Num(countWidth), api.MaxPlaces) {
		place := r.Num(placeWidth)
		l[place] = entry{r.Num(ballotWidth), readValue(r)}
	}
	return l
}

func (l values) mayBe() bool {
	for place, h := range l {
		if !isPlace(place) || !isValue(h.value) {
			return false
		}
	}
	return true
}

// lay lays down at how many places something is held, and these, rising.
func (l values) lay(w *pack.Writer) {
	w.Num(countWidth, len(l))
	for _, place := range placesOf(l) {
		w.Num(placeWidth, place)
		layValue(w, l[place].value)
	}
}

// readValues takes what lay lays down, as readEntries does.
func readValues(r *pack.Reader) values {
	l := values{}
	for range min(r.Num(countWidth), api.MaxPlaces) {
		place := r.Num(placeWidth)
		l[place] = held{readValue(r)}
	}
	return l
}

// placesOf is the places of a map, rising.
func placesOf[V any](m map[int]V) []int { return slices.Sorted(maps.Keys(m)) }

// endOf is the place behind the greatest of a map.
func endOf[V any](m map[int]V) int {
	end := 0
	for place := range m {
		end = max(end, place+1)
	}
	return end
}
