package audit

import (
	"strongbox/api"
	"strongbox/pack"
)

// slotMark is how a slot begins if something stands there.
const slotMark = 1

// slot is what stands at a place.
type slot struct {
	digest string
	times  int // 0: nothing stands there
}

// stands tells whether something does.
func (s slot) stands() bool { return s.times > 0 }

// shelf is what the index tells: what stands at each place, and where each digest stands.
type shelf struct {
	slots  []slot
	places map[string]int
}

// readIndex is what stands on the right pages of the index, which hang on those ahead of them: no digest stands twice.
func (v *view) readIndex() shelf {
	s := shelf{slots: make([]slot, v.layout.Count), places: map[string]int{}}
	for k := range v.layout.Data - v.layout.Index {
		sector := v.layout.Index + k
		slots, isRight := v.readSlots(sector, k)
		if !isRight || !s.takes(k*api.SlotsPage, slots) {
			v.notes.add(api.FindIndex, sector)
		}
	}
	return s
}

// readSlots is what stands on the k-th page, taken by itself; false, if it is none.
func (v *view) readSlots(sector, k int) ([]slot, bool) {
	body, isPage := v.body(sector, api.PageIndex, k)
	if !isPage {
		return nil, false
	}
	var l []slot
	for j := range api.SlotsPage {
		// There are so many, for the body has its length.
		text, _ := pack.Slot(body, slotSize, j)
		s, isRight := v.slotOf(text)
		if !isRight {
			return nil, false
		}
		l = append(l, s)
	}
	return l, true
}

// slotOf is what a slot tells; false, if it may not be.
func (v *view) slotOf(text string) (slot, bool) {
	if text == v.forms.of(api.PageIndex).none {
		return slot{}, true
	}
	r := pack.NewReader(text)
	begins := r.Num(markSize)
	s := slot{digest: r.Raw(api.DigestSize), times: r.Num(timesSize)}
	if begins != slotMark || !s.stands() || s.times > api.MaxCount {
		return slot{}, false
	}
	return s, true
}

// takes lets stand what a page tells, from its first place on; false, if one of these may not stand: then none does.
func (s shelf) takes(first int, page []slot) bool {
	for j, x := range page {
		if x.stands() && (first+j >= len(s.slots) || s.has(x.digest) || isAmong(page[:j], x.digest)) {
			return false
		}
	}
	for j, x := range page {
		if x.stands() {
			s.slots[first+j] = x
			s.places[x.digest] = first + j
		}
	}
	return true
}

// has tells whether a digest stands somewhere.
func (s shelf) has(digest string) bool {
	_, isThere := s.places[digest]
	return isThere
}

// isAmong tells whether a digest stands in one of some slots.
func isAmong(l []slot, digest string) bool {
	for _, x := range l {
		if x.stands() && x.digest == digest {
			return true
		}
	}
	return false
}
