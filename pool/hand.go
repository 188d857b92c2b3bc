package pool

import "slices"

// hand is values at hand by their keys: as many as there is room for, in an order.
type hand[K comparable, V any] struct {
	room   int
	values map[K]V
	order  []K // the newest first
}

// newHand is one with nothing in it.
func newHand[K comparable, V any](room int) hand[K, V] {
	return hand[K, V]{room: room, values: map[K]V{}}
}

// count tells how many values there are.
func (h *hand[K, V]) count() int { return len(h.order) }

// find tells the value of a key; false, if it is not at hand.
func (h *hand[K, V]) find(key K) (V, bool) {
	value, ok := h.values[key]
	return value, ok
}

// lay lays a value to the front; the last one goes, if there is no room for it.
func (h *hand[K, V]) lay(key K, value V) {
	h.drop(key)
	h.values[key] = value
	h.order = slices.Insert(h.order, 0, key)
	if h.count() > h.room {
		h.drop(h.order[h.room])
	}
}

// drop takes a key from where it is.
func (h *hand[K, V]) drop(key K) {
	delete(h.values, key)
	h.order = slices.DeleteFunc(h.order, func(other K) bool { return other == key })
}

// empty takes all.
func (h *hand[K, V]) empty() {
	clear(h.values)
	h.order = nil
}
