package link

import "sync/atomic"

// windowSize is of how many numbers a window knows whether they came: the bits of its marks.
const windowSize = 32

// window knows which numbers came among the last ones.
type window struct {
	top   atomic.Uint64 // one more than the greatest number that came; 0 if none did
	marks atomic.Uint32 // the bit i: whether the number i below the greatest one came
}

// isOld tells whether a number came, or is so far below the greatest one that this is not known any more.
func (w *window) isOld(number uint64) bool {
	top := w.top.Load()
	if number >= top {
		return false
	}
	below := top - 1 - number
	return below >= windowSize || w.marks.Load()>>below&1 == 1
}

// mark keeps that a number came, which must not be old.
func (w *window) mark(number uint64) {
	top := w.top.Load()
	if number < top {
		w.marks.Or(1 << (top - 1 - number))
		return
	}
	// A shift by more than the marks' bits leaves none of them: what they stood for is out of the window then.
	w.marks.Store(w.marks.Load()<<(number+1-top) | 1)
	w.top.Store(number + 1)
}
