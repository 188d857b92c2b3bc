package manifest

import (
	"strongbox/api"
	"strongbox/pack"
)

// isWhole tells whether no part is missing: without one there is no volume, and none can come.
func (s *Store) isWhole() bool { return s.pool != nil && s.taken != nil }

// isChangeable tells whether a transaction is open.
func (s *Store) isChangeable() bool {
	if !s.isWhole() {
		return false
	}
	// A pool tells it only by refusing another one; one that it does not refuse is ended ahead of anything being written.
	errno := s.pool.Begin()
	if errno == api.OK {
		s.pool.Abort()
	}
	return errno == api.ErrPoolOpen
}

// answerOf is what the face tells of what the map says.
func answerOf(errno api.Errno) api.Errno {
	switch errno {
	case api.ErrBitmapFull:
		return api.ErrManifestFull
	case api.ErrBitmapPlace, api.ErrBitmapFree, api.ErrBitmapForm:
		return api.ErrManifestForm
	}
	return errno
}

// find is the volume of a root.
func (s *Store) find(root int) (tree, api.Errno) {
	if !s.isWhole() {
		return tree{}, api.ErrManifestForm
	}
	isTaken, errno := s.taken.Used(root)
	if errno != api.OK {
		return tree{}, answerOf(errno)
	}
	// Also of a place that is free: that its sector cannot be read is told ahead of that.
	page, errno := s.readPage(root, api.PageRoot, rootSize)
	if errno != api.OK {
		return tree{}, errno
	}
	if !isTaken {
		return tree{}, api.ErrManifestForm
	}
	return parseTree(root, page), api.OK
}

// findToChange is find, for one that is to be changed in the open transaction.
func (s *Store) findToChange(root int) (tree, api.Errno) {
	if !s.isChangeable() {
		return tree{}, api.ErrPoolNone
	}
	return s.find(root)
}

// readLeaf is one of a volume's; if it is not there, one in which no block is mapped.
func (s *Store) readLeaf(t tree, l int) (leaf, api.Errno) {
	if !t.has(l) {
		return leaf{}, api.OK
	}
	page, errno := s.readPage(t.place(l), api.PageLeaf, leafSize)
	if errno != api.OK {
		return leaf{}, errno
	}
	if page.Number != t.leafNumber(l) {
		return leaf{}, api.ErrManifestForm
	}
	return parseLeaf(page.Body), api.OK
}

// readAll is the volume of a root, with all that its blocks are mapped to.
func (s *Store) readAll(root int) (tree, blocks, api.Errno) {
	t, errno := s.find(root)
	if errno != api.OK {
		return tree{}, blocks{}, errno
	}
	var b blocks
	for l := range t.there() {
		f, errno := s.readLeaf(t, l)
		if errno != api.OK {
			return tree{}, blocks{}, errno
		}
		copy(b[l*api.LeafEntries:], f[:])
	}
	return t, b, api.OK
}

// readPage is the page of a place, as the transaction sees it; ErrManifestForm, if it has another kind, or another body than one of so many bytes.
func (s *Store) readPage(place, kind, size int) (api.Page, api.Errno) {
	sector, errno := s.pool.Read(s.first + place)
	if errno == api.ErrDead {
		return api.Page{}, errno
	}
	// A sector that the pool has not is empty here, which is no page either.
	page, errno := pack.ParsePage(sector)
	if errno != api.OK || page.Kind != kind || len(page.Body) != size {
		return api.Page{}, api.ErrManifestForm
	}
	return page, api.OK
}

// writePage writes a page anew.
func (s *Store) writePage(place int, page api.Page) api.Errno {
	// None is refused: a page of that number was read there, and a body is no longer than it was.
	sector, _ := pack.MakePage(page)
	return s.pool.Write(s.first+place, sector)
}

// lay takes the least free place for a page. What it has written stays written where it is broken off: the caller aborts.
func (s *Store) lay(page api.Page) (int, api.Errno) {
	sector, errno := pack.MakePage(page)
	if errno != api.OK {
		// A leaf of a root page that others have numbered too high: such a volume there cannot be.
		return 0, api.ErrManifestForm
	}
	place, errno := s.taken.Alloc()
	if errno != api.OK {
		return 0, answerOf(errno)
	}
	if errno = s.pool.Write(s.first+place, sector); errno != api.OK {
		return 0, errno
	}
	return place, api.OK
}

// free gives a place back.
func (s *Store) free(place int) api.Errno { return answerOf(s.taken.Free(place)) }

// grow adds a leaf to a volume; how many pages that are.
func (s *Store) grow(t tree, l int, f leaf) (int, api.Errno) {
	place, errno := s.lay(t.leafPage(l, f))
	if errno != api.OK {
		return 0, errno
	}
	if errno = s.writePage(t.root, t.with(l, place).page()); errno != api.OK {
		return 0, errno
	}
	return 1, api.OK
}

// shrink takes a leaf from a volume; how many pages that are.
func (s *Store) shrink(t tree, l int) (int, api.Errno) {
	// The map first: so all is read ahead of the first write, and a disk that is dead is told ahead of a transaction that is full.
	if errno := s.free(t.place(l)); errno != api.OK {
		return 0, errno
	}
	if errno := s.writePage(t.root, t.without(l).page()); errno != api.OK {
		return 0, errno
	}
	return 1, api.OK
}
