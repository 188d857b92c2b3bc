package merkle_test

import (
	"math"
	"slices"
	"strings"
	"testing"

	"strongbox/api"
)

func TestE3GrowthOfExamples(t *testing.T) {
	a, b, c, d, e := wantLeaf("a"), wantLeaf("b"), wantLeaf("c"), wantLeaf("d"), wantLeaf("e")
	three := []string{"a", "b", "c"}
	growthIs(t, three, 2, []string{c}, api.OK)
	growthIs(t, three, 1, []string{b, c}, api.OK)
	growthIs(t, three, 3, nil, api.OK)
	growthIs(t, three, 0, nil, api.OK)
	growthIs(t, []string{"a", "b", "c", "d", "e"}, 3, []string{c, d, wantNode(a, b), e}, api.OK)
}

// The proofs of 7 leaves, laid together by hand.
func TestE3GrowthOfSevenLaidByHand(t *testing.T) {
	leaves := row(7)
	var l []string
	for _, s := range leaves {
		l = append(l, wantLeaf(s))
	}
	n01, n23, n45 := wantNode(l[0], l[1]), wantNode(l[2], l[3]), wantNode(l[4], l[5])
	four, rest := wantNode(n01, n23), wantNode(n45, l[6])
	for old, want := range [][]string{nil, {l[1], n23, rest}, {n23, rest}, {l[2], l[3], n01, rest}, {rest}, {l[4], l[5], l[6], four}, {n45, l[6], four}, nil} {
		growthIs(t, leaves, old, want, api.OK)
		if !slices.Equal(wantGrowth(leaves, old), want) {
			t.Errorf("the model's growth from %d", old)
		}
		checksGrown(t, wantRoot(leaves[:old]), old, wantRoot(leaves), 7, want, api.OK)
	}
}

func TestE3GrowthFromOtherNumbers(t *testing.T) {
	for _, n := range []int{0, 1, 2, 3, 5, 8} {
		growthIs(t, row(n), 0, nil, api.OK)
		growthIs(t, row(n), n, nil, api.OK)
		for _, old := range []int{math.MinInt, -n - 1, -1, n + 1, n + 2, 4097, math.MaxInt} {
			growthIs(t, row(n), old, nil, api.ErrMerkleGrow)
		}
	}
	growthIs(t, nil, 0, nil, api.OK)
	growthIs(t, []string{}, 0, nil, api.OK)
	growthIs(t, nil, 1, nil, api.ErrMerkleGrow)
	// A list's spare room holds none of its leaves.
	growthIs(t, row(5)[:3], 4, nil, api.ErrMerkleGrow)
}

func TestE3GrowthOfManyLeaves(t *testing.T) {
	leaves := row(5000)
	for _, n := range []int{2, 3, 4, 5, 6, 8, 9, 31, 32, 33, 2049, 4095, 4096, 4097, 5000} {
		for _, old := range []int{0, 1, n / 3, n / 2, n - 1, n} {
			growthIs(t, leaves[:n], old, wantGrowth(leaves[:n], old), api.OK)
		}
	}
}

func TestE3CheckGrownWithRootsOfOtherLengths(t *testing.T) {
	leaves := row(5)
	before, after, proof := wantRoot(leaves[:3]), wantRoot(leaves), wantGrowth(leaves, 3)
	for _, size := range []int{0, 1, 31, 33, 64} {
		otherBefore, otherAfter := (before + before)[:size], (after + after)[:size]
		checksGrown(t, otherBefore, 3, after, 5, proof, api.ErrMerkleRoot)
		checksGrown(t, before, 3, otherAfter, 5, proof, api.ErrMerkleRoot)
		checksGrown(t, otherBefore, 3, otherAfter, 5, proof, api.ErrMerkleRoot)
		// It is told ahead of everything else, also where a root could be anything.
		for _, numbers := range [][2]int{{0, -1}, {0, 4097}, {-1, 5}, {6, 5}, {0, 5}, {5, 5}, {0, 0}} {
			checksGrown(t, otherBefore, numbers[0], after, numbers[1], nil, api.ErrMerkleRoot)
			checksGrown(t, sum(""), numbers[0], otherAfter, numbers[1], nil, api.ErrMerkleRoot)
			checksGrown(t, before, numbers[0], otherAfter, numbers[1], []string{"x"}, api.ErrMerkleRoot)
		}
	}
	checksGrown(t, before, 3, after, 5, proof, api.OK)
}

func TestE3CheckGrownWithOtherNumbers(t *testing.T) {
	leaves := row(5)
	before, after := wantRoot(leaves[:3]), wantRoot(leaves)
	// No such growth is told ahead of a proof that proves nothing.
	for _, proof := range [][]string{wantGrowth(leaves, 3), nil, {"x"}} {
		for _, n := range []int{math.MinInt, -1, 4097, 4098, math.MaxInt} {
			for _, old := range []int{math.MinInt, -1, 0, 3, n, math.MaxInt} {
				checksGrown(t, before, old, after, n, proof, api.ErrMerkleGrow)
				checksGrown(t, sum(""), old, sum(""), n, proof, api.ErrMerkleGrow)
			}
		}
		for _, n := range []int{0, 1, 5, 4096} {
			for _, old := range []int{math.MinInt, -1, n + 1, n + 2, math.MaxInt} {
				checksGrown(t, before, old, after, n, proof, api.ErrMerkleGrow)
				checksGrown(t, before, old, before, n, proof, api.ErrMerkleGrow)
			}
		}
	}
}

func TestE3CheckGrownFromNothing(t *testing.T) {
	none, some := sum(""), wantRoot(row(5))
	for _, n := range []int{1, 2, 5, 4096} {
		for _, after := range []string{some, none, wantLeaf(""), "any thirty-two bytes: not a root"} {
			checksGrown(t, none, 0, after, n, nil, api.OK)
			checksGrown(t, none, 0, after, n, []string{}, api.OK)
			checksGrown(t, none, 0, after, n, []string{none}, api.ErrMerkleProof)
			checksGrown(t, none, 0, after, n, []string{"x"}, api.ErrMerkleProof)
			for _, before := range []string{some, wantLeaf(""), turned(none, 0), turned(none, 255)} {
				checksGrown(t, before, 0, after, n, nil, api.ErrMerkleProof)
				checksGrown(t, before, 0, before, n, nil, api.ErrMerkleProof)
			}
		}
	}
}

func TestE3CheckGrownFromNothingToNothing(t *testing.T) {
	none, some := sum(""), wantRoot(row(5))
	checksGrown(t, none, 0, none, 0, nil, api.OK)
	checksGrown(t, none, 0, none, 0, []string{none}, api.ErrMerkleProof)
	checksGrown(t, none, 0, some, 0, nil, api.ErrMerkleProof)
	checksGrown(t, some, 0, none, 0, nil, api.ErrMerkleProof)
	// The roots are the same, but not that of no leaves.
	checksGrown(t, some, 0, some, 0, nil, api.ErrMerkleProof)
	checksGrown(t, wantLeaf(""), 0, wantLeaf(""), 0, nil, api.ErrMerkleProof)
	for bit := range 256 {
		checksGrown(t, turned(none, bit), 0, none, 0, nil, api.ErrMerkleProof)
		checksGrown(t, none, 0, turned(none, bit), 0, nil, api.ErrMerkleProof)
	}
	checksGrown(t, none, 1, none, 0, nil, api.ErrMerkleGrow)
}

func TestE3CheckGrownByNothing(t *testing.T) {
	for _, n := range []int{1, 2, 3, 4, 5, 4095, 4096} {
		root := wantRoot(row(n))
		// Two roots that are the same are not held against leaves.
		for _, r := range []string{root, sum(""), "any thirty-two bytes: not a root"} {
			checksGrown(t, r, n, r, n, nil, api.OK)
			checksGrown(t, r, n, r, n, []string{r}, api.ErrMerkleProof)
			checksGrown(t, r, n, r, n, []string{"x"}, api.ErrMerkleProof)
			for _, bit := range []int{0, 100, 255} {
				checksGrown(t, turned(r, bit), n, r, n, nil, api.ErrMerkleProof)
				checksGrown(t, r, n, turned(r, bit), n, nil, api.ErrMerkleProof)
			}
		}
		checksGrown(t, sum(""), n, root, n, nil, api.ErrMerkleProof)
		checksGrown(t, root, n, sum(""), n, nil, api.ErrMerkleProof)
	}
}

// Each way to spoil a proof of each growth of each small row.
func TestE3CheckGrownOfSpoiltProofs(t *testing.T) {
	for n := 1; n <= 18; n++ {
		leaves := row(n)
		after := wantRoot(leaves)
		for old := 1; old <= n; old++ {
			before, proof := wantRoot(leaves[:old]), wantGrowth(leaves, old)
			checksGrown(t, before, old, after, n, proof, api.OK)
			checksGrown(t, before, old, after, n, more(proof, after), api.ErrMerkleProof)
			checksGrown(t, before, old, after, n, more(proof, path0(proof, before)), api.ErrMerkleProof)
			checksGrown(t, before, old, after, n, append([]string{before}, proof...), api.ErrMerkleProof)
			if old < n {
				checksGrown(t, after, old, before, n, proof, api.ErrMerkleProof)
				checksGrown(t, before, old, before, n, proof, api.ErrMerkleProof)
				checksGrown(t, after, old, after, n, proof, api.ErrMerkleProof)
			}
			for _, bit := range []int{0, 7, 128, 255} {
				checksGrown(t, turned(before, bit), old, after, n, proof, api.ErrMerkleProof)
				checksGrown(t, before, old, turned(after, bit), n, proof, api.ErrMerkleProof)
			}
			for k, element := range proof {
				checksGrown(t, before, old, after, n, slices.Delete(slices.Clone(proof), k, k+1), api.ErrMerkleProof)
				for _, other := range []string{"", element[1:], element[:31], element + "x", element + element} {
					checksGrown(t, before, old, after, n, with(proof, k, other), api.ErrMerkleProof)
				}
				for _, bit := range []int{0, 7, 128, 255} {
					checksGrown(t, before, old, after, n, with(proof, k, turned(element, bit)), api.ErrMerkleProof)
				}
				for m := range k {
					checksGrown(t, before, old, after, n, with(with(proof, k, proof[m]), m, element), api.ErrMerkleProof)
				}
			}
		}
	}
}

func TestE3CheckGrownWithEveryBitTurned(t *testing.T) {
	leaves := row(7)
	after := wantRoot(leaves)
	for _, old := range []int{1, 3, 4, 5, 6} {
		before, proof := wantRoot(leaves[:old]), wantGrowth(leaves, old)
		for bit := range 256 {
			checksGrown(t, turned(before, bit), old, after, 7, proof, api.ErrMerkleProof)
			checksGrown(t, before, old, turned(after, bit), 7, proof, api.ErrMerkleProof)
			for k, element := range proof {
				checksGrown(t, before, old, after, 7, with(proof, k, turned(element, bit)), api.ErrMerkleProof)
			}
		}
	}
}

// An element of another length stands for none of 32 bytes, not for noughts either.
func TestE3CheckGrownWithNoughts(t *testing.T) {
	noughts := strings.Repeat("\x00", 33)
	before, zero := wantLeaf("a"), noughts[:32]
	// From 1 to 2 leaves, and from 3 to 4 by three elements.
	after, three := wantNode(before, zero), wantNode(zero, zero)
	four := wantNode(zero, three)
	checksGrown(t, before, 1, after, 2, []string{zero}, api.OK)
	checksGrown(t, three, 3, four, 4, []string{zero, zero, zero}, api.OK)
	for _, element := range []string{"", noughts[:31], noughts, zero + zero} {
		checksGrown(t, before, 1, after, 2, []string{element}, api.ErrMerkleProof)
		for k := range 3 {
			checksGrown(t, three, 3, four, 4, with([]string{zero, zero, zero}, k, element), api.ErrMerkleProof)
		}
	}
}

// What was there has been changed: no proof of that growth is taken.
func TestE3CheckGrownOfChangedLeaves(t *testing.T) {
	for n := 2; n <= 16; n++ {
		leaves := row(n)
		for old := 1; old < n; old++ {
			before := wantRoot(leaves[:old])
			for k := range old {
				changed := with(leaves, k, "changed")
				checksGrown(t, before, old, wantRoot(changed), n, wantGrowth(changed, old), api.ErrMerkleProof)
				checksGrown(t, before, old, wantRoot(changed), n, wantGrowth(leaves, old), api.ErrMerkleProof)
			}
			for k := old; k < n; k++ {
				changed := with(leaves, k, "changed")
				checksGrown(t, before, old, wantRoot(changed), n, wantGrowth(changed, old), api.OK)
			}
		}
	}
}

// The proof of one growth, handed in for other numbers: it is taken only where the words make the same roots of it.
func TestE3CheckGrownOfOtherNumbersOfLeaves(t *testing.T) {
	for size := 1; size <= 10; size++ {
		for _, leaves := range [][]string{row(size), make([]string, size)} {
			after := wantRoot(leaves)
			for m := 1; m <= size; m++ {
				before, proof := wantRoot(leaves[:m]), wantGrowth(leaves, m)
				for n := range 17 {
					for old := range n + 1 {
						checksGrown(t, before, old, after, n, proof, wantCheckGrown(before, old, after, n, proof))
					}
				}
			}
		}
	}
}

func TestE3CheckGrownOfGreatRows(t *testing.T) {
	leaves := row(4097)
	for _, n := range []int{4095, 4096} {
		after := wantRoot(leaves[:n])
		for _, old := range []int{0, 1, 2, 3, 1000, 2047, 2048, 2049, 4093, n - 1, n} {
			proof := wantGrowth(leaves[:n], old)
			checksGrown(t, wantRoot(leaves[:old]), old, after, n, proof, api.OK)
			checksGrown(t, wantRoot(leaves[1:old+1]), old, after, n, proof, wantCheckGrown(wantRoot(leaves[1:old+1]), old, after, n, proof))
		}
	}
	// Rightly proved, but one leaf more than may be.
	checksGrown(t, wantRoot(leaves[:4096]), 4096, wantRoot(leaves), 4097, wantGrowth(leaves, 4096), api.ErrMerkleGrow)
	checksGrown(t, wantRoot(leaves), 4097, wantRoot(leaves), 4097, nil, api.ErrMerkleGrow)
	checksGrown(t, sum(""), 0, wantRoot(leaves), 4097, nil, api.ErrMerkleGrow)
}
