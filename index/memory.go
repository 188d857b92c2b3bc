package index

import (
	"slices"

	"strongbox/api"
	"strongbox/pack"
)

// key is a digest as a value by which a map finds.
type key [api.DigestSize]byte

// entry is what stands at a place: how often it is counted, and whose digest; counted 0 times: nothing stands there.
type entry struct {
	key   key
	times int
}

// memory is what an index knows.
type memory struct {
	entries []entry     // what stands at each place
	places  map[key]int // where each digest stands
}

// isDigest tells whether a text has the length of one.
func isDigest(s string) bool { return len(s) == api.DigestSize }

// isTimes tells whether something may stand that is counted so often.
func isTimes(n int) bool { return 1 <= n && n <= api.MaxCount }

// keyOf is a text as a key, if it is a digest.
func keyOf(digest string) key {
	var k key
	copy(k[:], digest)
	return k
}

// isNone tells whether an entry is that of a place at which nothing stands.
func (e entry) isNone() bool { return e.times == 0 }

// newMemory is one of so many places, at which nothing stands.
func newMemory(count int) memory {
	return memory{entries: make([]entry, count), places: make(map[key]int)}
}

// has tells whether there is such a place.
func (m *memory) has(place int) bool { return 0 <= place && place < len(m.entries) }

// find tells where a digest stands.
func (m *memory) find(k key) (int, bool) {
	place, stands := m.places[k]
	return place, stands
}

// tell is what stands at a place, as callers see it.
func (m *memory) tell(place int) api.Slot {
	e := m.entries[place]
	return api.Slot{Place: place, Digest: string(e.key[:]), Count: e.times}
}

// rising are the places at which something stands.
func (m *memory) rising() []int {
	var l []int
	for _, place := range m.places {
		l = append(l, place)
	}
	slices.Sort(l)
	return l
}

// set lets an entry stand at a place, and what stood there be gone.
func (m *memory) set(place int, e entry) {
	if was := m.entries[place]; !was.isNone() {
		delete(m.places, was.key)
	}
	m.entries[place] = e
	if !e.isNone() {
		m.places[e.key] = place
	}
}

// take learns what the body of a page says; false, if that may not be.
func (m *memory) take(number int, body string) bool {
	for i := range api.SlotsPage {
		// None is refused: a body has six slots of that size.
		slot, _ := pack.Slot(body, slotSize, i)
		e, ok := entryOf(slot)
		if !ok {
			return false
		}
		if e.isNone() {
			continue
		}
		place := firstOf(number) + i
		if _, stands := m.find(e.key); stands || !m.has(place) {
			return false
		}
		m.set(place, e)
	}
	return true
}
