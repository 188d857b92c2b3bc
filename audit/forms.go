package audit

import (
	"strings"
	"sync"

	"strongbox/api"
)

// The bytes of numbers and marks in bodies.
const (
	layoutSize = 4 // of each number of a layout
	markSize   = 1
	timesSize  = 4 // of how often a digest is counted
	amountSize = 4 // of a quota and of a charge
	countSize  = 1 // of how many volumes there are
	numberSize = 1 // of a volume's number
	rootSize   = 4 // of the place of its root
	leafSize   = 2 // of the place of a leaf, in a root page
)

// What numbers bodies are made of.
const (
	layoutNumbers = 7
	leaves        = api.MaxBlocks / api.LeafEntries
	bitsByte      = 8
)

// The bytes of what is told of one digest, of one volume and of one block.
const (
	slotSize   = markSize + api.DigestSize + timesSize
	volumeSize = numberSize + rootSize
	entrySize  = api.DigestSize + api.WrappedSize
)

// form is what the bodies of one kind of pages have in common, whatever the image.
type form struct {
	size int    // of a body
	none string // how a part of it stands that tells of nothing
}

// forms are those of all kinds. Whichever goroutine needs one first fills them, and the others wait for it. A view has its own, for nothing is kept from call to call.
type forms struct {
	once sync.Once
	list [api.PageLeaf + 1]form // by kinds
}

// of is the form of a kind.
func (f *forms) of(kind int) form {
	f.once.Do(f.fill)
	return f.list[kind]
}

// fill fills all of them.
func (f *forms) fill() {
	tenantSize := markSize + 2*amountSize + countSize + api.MaxVolumes*volumeSize
	f.list = [...]form{
		api.PageSuper:   {size: layoutNumbers * layoutSize},
		api.PageJournal: {size: markSize, none: noughts(markSize)},
		api.PageBitmap:  {size: api.BitsPage / bitsByte},
		api.PageIndex:   {size: api.SlotsPage * slotSize, none: noughts(slotSize)},
		api.PageTenant:  {size: tenantSize, none: noughts(tenantSize)},
		api.PageRoot:    {size: leaves * leafSize},
		api.PageLeaf:    {size: markSize + api.LeafEntries*entrySize, none: noughts(entrySize)},
	}
}

// noughts are so many bytes 0.
func noughts(n int) string { return strings.Repeat("\x00", n) }
