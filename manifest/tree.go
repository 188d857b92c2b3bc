package manifest

import (
	"iter"

	"strongbox/api"
	"strongbox/pack"
)

// How many leaves a volume has at most; the bytes of a leaf's place in a root page, and of that page's body.
const (
	leafCount = api.MaxBlocks / api.LeafEntries
	placeSize = 2
	rootSize  = leafCount * placeSize
)

// How root pages are numbered among all tenants', and leaves among all root pages'.
const (
	volumesStep = 100
	leavesStep  = 32
)

// tree is a volume, as its root page tells it.
type tree struct {
	root   int            // the place of that page
	number int            // of that page
	leaves [leafCount]int // of each leaf its place and 1 more; 0, if there is none
}

// isTenant tells whether there may be a tenant of that number.
func isTenant(n int) bool { return 1 <= n && n <= api.MaxTenants }

// isVolume tells whether there may be a volume of that number.
func isVolume(n int) bool { return 0 <= n && n <= api.MaxVolume }

// newTree is a volume without leaves, which has no place yet.
func newTree(tenant, volume int) tree {
	return tree{number: volumesStep*tenant + volume}
}

// parseTree is the volume of a root page at a place.
func parseTree(root int, page api.Page) tree {
	t := tree{root: root, number: page.Number}
	r := pack.NewReader(page.Body)
	for l := range t.leaves {
		t.leaves[l] = r.Num(placeSize)
	}
	return t
}

// page is its root page.
func (t tree) page() api.Page {
	w := pack.NewWriter()
	w.Num(placeSize, t.leaves[:]...)
	// Nothing is wrong with it: places are small.
	body, _ := w.Done()
	return api.Page{Kind: api.PageRoot, Number: t.number, Body: body}
}

// leafNumber is the number of the page of a leaf.
func (t tree) leafNumber(l int) int { return leavesStep*t.number + l }

// leafPage is the page of a leaf.
func (t tree) leafPage(l int, f leaf) api.Page {
	return api.Page{Kind: api.PageLeaf, Number: t.leafNumber(l), Body: f.body()}
}

// has tells whether a leaf is there.
func (t tree) has(l int) bool { return t.leaves[l] != 0 }

// place is where a leaf stands that is there.
func (t tree) place(l int) int { return t.leaves[l] - 1 }

// isBare tells whether no leaf is there, so that no block is mapped.
func (t tree) isBare() bool { return t.leaves == [leafCount]int{} }

// with is the volume with a leaf at a place.
func (t tree) with(l, place int) tree {
	t.leaves[l] = place + 1
	return t
}

// without is the volume without a leaf.
func (t tree) without(l int) tree {
	t.leaves[l] = 0
	return t
}

// there goes over the leaves that are there, by rising numbers.
func (t tree) there() iter.Seq[int] {
	return func(yield func(int) bool) {
		for l := range t.leaves {
			if t.has(l) && !yield(l) {
				return
			}
		}
	}
}
