package bitmap

import (
	"strongbox/api"
	"strongbox/pack"
)

// The places of a byte of a page's body, and the bytes of a body.
const (
	bitsByte = 8
	bodySize = api.BitsPage / bitsByte
)

// pagesOf is how many pages a map of so many places has.
func pagesOf(count int) int {
	return (count + api.BitsPage - 1) / api.BitsPage
}

// pageOf is the number of the page in which a place stands.
func pageOf(place int) int { return place / api.BitsPage }

// firstOf is the first place of a page.
func firstOf(number int) int { return number * api.BitsPage }

// sectorOf is a page as a sector.
func sectorOf(number int, body string) string {
	// None is refused: the numbers are small, and a body is shorter than a page's may be.
	sector, _ := pack.MakePage(api.Page{Kind: api.PageBitmap, Number: number, Body: body})
	return sector
}

// bodyOf is the body of the page of that number which a sector is; false, if it is none.
func bodyOf(sector string, number int) (string, bool) {
	page, errno := pack.ParsePage(sector)
	if errno != api.OK || page.Kind != api.PageBitmap || page.Number != number || len(page.Body) != bodySize {
		return "", false
	}
	return page.Body, true
}

// isTaken tells whether a place is taken, by the body of its page.
func isTaken(body string, place int) bool {
	return body[byteOf(place)]&bitOf(place) != 0
}

// turned is a body in which the bit of a place is the other one.
func turned(body string, place int) string {
	b := []byte(body)
	b[byteOf(place)] ^= bitOf(place)
	return string(b)
}

// byteOf is where a place's bit stands in the body of its page.
func byteOf(place int) int { return place % api.BitsPage / bitsByte }

// bitOf is that bit in its byte.
func bitOf(place int) byte { return 1 << (place % bitsByte) }
