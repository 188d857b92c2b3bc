package index

import (
	"strings"

	"strongbox/api"
	"strongbox/pack"
)

// The bytes of a slot's parts, of a slot and of a page's body, and how a slot begins if something stands there.
const (
	markSize  = 1
	timesSize = 4
	slotSize  = markSize + api.DigestSize + timesSize
	bodySize  = api.SlotsPage * slotSize
	mark      = 1
)

// pagesOf is how many pages an index of so many places has.
func pagesOf(count int) int {
	return (count + api.SlotsPage - 1) / api.SlotsPage
}

// pageOf is the number of the page in which a place stands.
func pageOf(place int) int { return place / api.SlotsPage }

// firstOf is the first place of a page.
func firstOf(number int) int { return number * api.SlotsPage }

// sectorOf is a page as a sector.
func sectorOf(number int, body string) string {
	// None is refused: the numbers are small, and a body is shorter than a page's may be.
	sector, _ := pack.MakePage(api.Page{Kind: api.PageIndex, Number: number, Body: body})
	return sector
}

// bodyOf is the body of the page of that number which a sector is; false, if it is none.
func bodyOf(sector string, number int) (string, bool) {
	page, errno := pack.ParsePage(sector)
	if errno != api.OK || page.Kind != api.PageIndex || page.Number != number || len(page.Body) != bodySize {
		return "", false
	}
	return page.Body, true
}

// slotOf is an entry as a slot.
func slotOf(e entry) string {
	if e.isNone() {
		return strings.Repeat("\x00", slotSize)
	}
	w := pack.NewWriter()
	w.Num(markSize, mark)
	w.Raw(string(e.key[:]))
	w.Num(timesSize, e.times)
	// Nothing is wrong with it: the numbers are small.
	slot, _ := w.Done()
	return slot
}

// entryOf is the entry that a slot tells of; false, if it is none.
func entryOf(slot string) (entry, bool) {
	if slot == slotOf(entry{}) {
		return entry{}, true
	}
	r := pack.NewReader(slot)
	marked := r.Num(markSize) == mark
	e := entry{key: keyOf(r.Raw(api.DigestSize)), times: r.Num(timesSize)}
	if errno, _ := r.Done(); errno != api.OK || !marked || !isTimes(e.times) {
		return entry{}, false
	}
	return e, true
}
