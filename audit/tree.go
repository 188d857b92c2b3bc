package audit

import (
	"strongbox/api"
	"strongbox/pack"
)

// What the numbers of pages are made of: a root's of its tenant and volume, a leaf's of its root's and its own.
const (
	rootFactor = 100
	leafFactor = 32
)

// rootAt is what the right root page of a number tells of each leaf (0: there is none; else its place and 1 more); false, if it is none.
func (v *view) rootAt(place, number int) ([]int, bool) {
	if place >= v.layout.Count {
		return nil, false
	}
	body, isPage := v.body(v.layout.Data+place, api.PageRoot, number)
	if !isPage {
		return nil, false
	}
	var l []int
	r := pack.NewReader(body)
	for range leaves {
		n := r.Num(leafSize)
		if n > v.layout.Count {
			return nil, false
		}
		l = append(l, n)
	}
	return l, true
}

// leafAt is what the blocks are mapped to that the right leaf of a number maps; false, if it is none.
func (v *view) leafAt(place, number int) ([]string, bool) {
	body, isPage := v.body(v.layout.Data+place, api.PageLeaf, number)
	if !isPage {
		return nil, false
	}
	r := pack.NewReader(body)
	marks := r.Num(markSize)
	if marks == 0 || marks>>api.LeafEntries != 0 {
		return nil, false
	}
	var digests []string
	for j := range api.LeafEntries {
		entry := r.Raw(entrySize)
		if marks>>j&1 == 1 {
			digests = append(digests, entry[:api.DigestSize])
		} else if entry != v.forms.of(api.PageLeaf).none {
			return nil, false
		}
	}
	return digests, true
}
