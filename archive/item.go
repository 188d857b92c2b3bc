package archive

import (
	"iter"
	"slices"

	"strongbox/api"
	"strongbox/merkle"
	"strongbox/pack"
)

// An item as bytes: those of its block, and of all of it.
const (
	blockSize = 1
	itemSize  = blockSize + api.WrappedSize + api.SectorSize
)

// bytesOf is an item, which must be right, as bytes.
func bytesOf(x api.Item) string {
	return string([]byte{byte(x.Block)}) + x.Wrapped + x.Data
}

// itemOf is the item of so many bytes as one has.
func itemOf(s string) api.Item {
	data := blockSize + api.WrappedSize
	return api.Item{Block: int(s[0]), Wrapped: s[blockSize:data], Data: s[data:]}
}

// itemsOf goes through items that stand as bytes one behind the other.
func itemsOf(row string) iter.Seq[api.Item] {
	return func(yield func(api.Item) bool) {
		for k := range pack.Slots(row, itemSize) {
			s, _ := pack.Slot(row, itemSize, k)
			if !yield(itemOf(s)) {
				return
			}
		}
	}
}

// both goes through two lists of right items at once, by rising blocks; the one that has no item of a block gives a zero one, which is never right.
func both(one, two []api.Item) iter.Seq2[api.Item, api.Item] {
	return func(yield func(api.Item, api.Item) bool) {
		l, m := one, two
		for len(l) > 0 || len(m) > 0 {
			block := min(firstBlock(l), firstBlock(m))
			var x, y api.Item
			x, l = take(l, block)
			y, m = take(m, block)
			if !yield(x, y) {
				return
			}
		}
	}
}

// firstBlock is the block of a list's first item; of no items one that is above all.
func firstBlock(l []api.Item) int {
	if len(l) == 0 {
		return api.MaxBlocks
	}
	return l[0].Block
}

// take takes the item of a block off the front of a list, if it stands there; the list that is left.
func take(l []api.Item, block int) (api.Item, []api.Item) {
	if firstBlock(l) != block {
		return api.Item{}, l
	}
	return l[0], l[1:]
}

// checkItems says that items of one of these lists are not right.
func checkItems(lists ...[]api.Item) error {
	for _, l := range lists {
		if !areRight(slices.Values(l)) {
			return fault(api.ErrArchiveItem)
		}
	}
	return nil
}

// areRight tells whether items are.
func areRight(items iter.Seq[api.Item]) bool {
	last := -1
	for x := range items {
		if x.Block <= last || x.Block >= api.MaxBlocks || len(x.Data) != api.SectorSize || len(x.Wrapped) != api.WrappedSize {
			return false
		}
		last = x.Block
	}
	return true
}

// rootOf is the root of items, which must be right.
func rootOf(items iter.Seq[api.Item]) string {
	var leaves []string
	for x := range items {
		leaves = append(leaves, bytesOf(x))
	}
	return merkle.Root(leaves)
}
