package audit

import (
	"strongbox/api"
	"strongbox/pack"
)

// Where the super page stands, and its number.
const (
	superAt     = 0
	superNumber = 0
)

// view is an image that is looked at, and what was found in it.
type view struct {
	image  []string
	layout api.Layout
	forms  forms
	notes  notes
}

// parts are what stands on the right pages that are not a volume's.
type parts struct {
	marks []mark
	shelf shelf
	roll  roll
}

// page is the page of a kind that a sector is; false, if it is none.
func (v *view) page(sector, kind int) (api.Page, bool) {
	page, errno := pack.ParsePage(v.image[sector])
	if errno != api.OK || page.Kind != kind || len(page.Body) != v.forms.of(kind).size {
		return api.Page{}, false
	}
	return page, true
}

// body is that of the page of a kind and a number that a sector is; false, if it is none.
func (v *view) body(sector, kind, number int) (string, bool) {
	page, isPage := v.page(sector, kind)
	if !isPage || page.Number != number {
		return "", false
	}
	return page.Body, true
}

// hasSuper tells whether the super page is that of the layout.
func (v *view) hasSuper() bool {
	l := v.layout
	w := pack.NewWriter()
	w.Num(layoutSize, l.Sectors, l.Tenants, l.Bitmap, l.Index, l.Data, l.Count, l.Capacity)
	// Nothing is wrong with it: the numbers are small.
	want, _ := w.Done()
	body, isPage := v.body(superAt, api.PageSuper, superNumber)
	return isPage && body == want
}

// read is what stands on the pages ahead of the data. None of these parts is told by another one, so they are read at the same time.
func (v *view) read() parts {
	var marks []mark
	var index shelf
	var tenants roll
	together(
		v.lookAtHead,
		func() { marks = v.readMap() },
		func() { index = v.readIndex() },
		func() { tenants = v.readTenants() },
	)
	return parts{marks: marks, shelf: index, roll: tenants}
}

// lookAtHead looks at the head of the journal, which has the number of any commit.
func (v *view) lookAtHead() {
	head, isPage := v.page(api.JournalAt, api.PageJournal)
	if !isPage || head.Body != v.forms.of(api.PageJournal).none {
		v.notes.add(api.FindJournal, api.JournalAt)
	}
}
