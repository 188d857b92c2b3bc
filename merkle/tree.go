package merkle

import (
	"math/bits"

	"strongbox/api"
)

// peakCount is how many powers of two there are from 1 to MaxLeaves.
const peakCount = 13

// Tree takes leaves one by one.
type Tree struct {
	size int
	// peaks holds the root of each part of a power of two: that of 1 << p leaves at p, if size has that power. The parts stand in the row with the greatest first.
	peaks [peakCount]digest
}

// New makes one without leaves.
func New() *Tree { return &Tree{} }

// Add takes one more.
func (t *Tree) Add(leaf string) {
	if t.size == api.MaxLeaves {
		return
	}
	grown := sumOf(leafText(leaf))
	p := 0
	for ; t.hasPeak(p); p++ {
		grown = over(t.peaks[p], grown)
		t.peaks[p] = digest{} // a digest that lies below a node now is not kept
	}
	t.peaks[p] = grown
	t.size++
}

// hasPeak tells whether there is a part of 1 << p leaves.
func (t *Tree) hasPeak(p int) bool { return t.size>>p&1 == 1 }

// Size tells how many there are.
func (t *Tree) Size() int { return t.size }

// Root is their root.
func (t *Tree) Root() string {
	if t.size == 0 {
		return sumOf("").text()
	}
	least := bits.TrailingZeros(uint(t.size))
	root := t.peaks[least]
	for p := least + 1; p < peakCount; p++ {
		if t.hasPeak(p) {
			root = over(t.peaks[p], root)
		}
	}
	return root.text()
}

// Kept tells how many digests it keeps.
func (t *Tree) Kept() int { return bits.OnesCount(uint(t.size)) }
