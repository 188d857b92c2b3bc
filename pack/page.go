package pack

import (
	"strings"

	"strongbox/api"
)

// What a page begins with, and the bytes of its small numbers (the kind, the length) and of its number.
const (
	pageLetters = "SB"
	smallWidth  = 1
	pageWidth   = 4
)

// What a check begins as, and what is laid on it for a bit that is shifted out.
const (
	checkStart = 4294967295
	checkBits  = 3988292384
)

// Check is the CRC-32 of a text.
func Check(s string) int {
	check := uint32(checkStart)
	for i := range len(s) {
		check ^= uint32(s[i])
		for range 8 {
			low := check & 1
			check >>= 1
			if low == 1 {
				check ^= checkBits
			}
		}
	}
	return int(^check)
}

// MakePage is a page as a sector.
func MakePage(p api.Page) (string, api.Errno) {
	if !fits(p.Kind, smallWidth) || !fits(p.Number, pageWidth) {
		return "", api.ErrArg
	}
	if len(p.Body) > api.PageBody {
		return "", api.ErrPackLong
	}
	w := NewWriter()
	w.Raw(pageLetters)
	w.Num(smallWidth, p.Kind, len(p.Body))
	w.Num(pageWidth, p.Number)
	w.Raw(p.Body)
	w.Raw(strings.Repeat("\x00", api.PageBody-len(p.Body)))
	checked, _ := w.Done()
	check := Check(checked)
	// The lowest byte first: only so does the check lie side by side with the bits that it is of.
	w.Num(1, check&255, check>>8&255, check>>16&255, check>>24)
	return w.Done()
}

// ParsePage is the page of a sector.
func ParsePage(sector string) (api.Page, api.Errno) {
	r := NewReader(sector)
	r.Raw(len(pageLetters))
	kind, length := r.Num(smallWidth), r.Num(smallWidth)
	number := r.Num(pageWidth)
	p := api.Page{Kind: kind, Number: number, Body: r.Raw(length)}
	// No other page can make this sector, for these bytes tell all of it: so it is one if it makes it.
	if again, errno := MakePage(p); errno != api.OK || again != sector {
		return api.Page{}, api.ErrPackSum
	}
	return p, api.OK
}
