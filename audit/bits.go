package audit

import "strongbox/api"

// mark is what is known of a place.
type mark int

const (
	unknown mark = iota // the page is not right
	free
	taken
)

// readMap is what is known of each place by the bitmap.
func (v *view) readMap() []mark {
	marks := make([]mark, v.layout.Count)
	for k := range v.layout.Index - v.layout.Bitmap {
		rest := marks[k*api.BitsPage:]
		sector := v.layout.Bitmap + k
		body, isPage := v.body(sector, api.PageBitmap, k)
		if !isPage || isAnyTaken(body, len(rest)) {
			v.notes.add(api.FindBitmap, sector)
			continue
		}
		for i := range min(len(rest), api.BitsPage) {
			rest[i] = markOf(body, i)
		}
	}
	return marks
}

// markOf is what a page knows of the place of its i-th bit.
func markOf(body string, i int) mark {
	if body[i/bitsByte]>>(i%bitsByte)&1 == 1 {
		return taken
	}
	return free
}

// isAnyTaken tells whether a bit is set from the i-th on.
func isAnyTaken(body string, i int) bool {
	for ; i < api.BitsPage; i++ {
		if markOf(body, i) == taken {
			return true
		}
	}
	return false
}
