package manifest

import (
	"iter"
	"strings"

	"strongbox/api"
	"strongbox/pack"
)

// The bytes of a leaf's body: of the marks, which tell what is mapped, of an entry, of all.
const (
	markSize  = 1
	entrySize = api.DigestSize + api.WrappedSize
	leafSize  = markSize + api.LeafEntries*entrySize
)

// leaf is what its blocks are mapped to: of one that is not mapped the entry that holds nothing.
type leaf [api.LeafEntries]api.Entry

// blocks are what all blocks of a volume are mapped to, likewise.
type blocks [api.MaxBlocks]api.Entry

// isBlock tells whether a volume has a block of that number.
func isBlock(n int) bool { return 0 <= n && n < api.MaxBlocks }

// leafOf is the number of a block's leaf.
func leafOf(block int) int { return block / api.LeafEntries }

// seatOf is where a block stands in its leaf.
func seatOf(block int) int { return block % api.LeafEntries }

// isEntry tells whether a block may be mapped to an entry.
func isEntry(e api.Entry) bool {
	return len(e.Digest) == api.DigestSize && len(e.Wrapped) == api.WrappedSize
}

// isMapped tells whether an entry is that of a block that is mapped.
func isMapped(e api.Entry) bool { return e != api.Entry{} }

// parseLeaf is the leaf of a body, which has as many bytes as one must have.
func parseLeaf(body string) leaf {
	var f leaf
	r := pack.NewReader(body)
	marks := r.Num(markSize)
	for j := range f {
		digest, wrapped := r.Raw(api.DigestSize), r.Raw(api.WrappedSize)
		if marks>>j&1 == 1 {
			f[j] = api.Entry{Digest: digest, Wrapped: wrapped}
		}
	}
	return f
}

// body is that of its page.
func (f leaf) body() string {
	w := pack.NewWriter()
	w.Num(markSize, f.marks())
	for _, e := range f {
		if isMapped(e) {
			w.Raw(e.Digest)
			w.Raw(e.Wrapped)
		} else {
			w.Raw(strings.Repeat("\x00", entrySize))
		}
	}
	// Nothing is wrong with it: the marks are few.
	body, _ := w.Done()
	return body
}

// marks has a bit for each block that is mapped.
func (f leaf) marks() int {
	marks := 0
	for j, e := range f {
		if isMapped(e) {
			marks |= 1 << j
		}
	}
	return marks
}

// mapped goes over those that are, by rising numbers.
func (b blocks) mapped() iter.Seq2[int, api.Entry] {
	return func(yield func(int, api.Entry) bool) {
		for block, e := range b {
			if isMapped(e) && !yield(block, e) {
				return
			}
		}
	}
}
