package merkle_test

import (
	"math"
	"slices"
	"strings"
	"testing"

	"strongbox/api"
	"strongbox/merkle"
)

func TestE2PathsOfExamples(t *testing.T) {
	a, b, c, d := wantLeaf("a"), wantLeaf("b"), wantLeaf("c"), wantLeaf("d")
	three := []string{"a", "b", "c"}
	pathIs(t, three, 0, []string{b, c}, api.OK)
	pathIs(t, three, 1, []string{a, c}, api.OK)
	pathIs(t, three, 2, []string{wantNode(a, b)}, api.OK)
	five := []string{"a", "b", "c", "d", "e"}
	pathIs(t, five, 4, []string{wantNode(wantNode(a, b), wantNode(c, d))}, api.OK)
	pathIs(t, five, 2, []string{d, wantNode(a, b), wantLeaf("e")}, api.OK)
	pathIs(t, []string{"a"}, 0, nil, api.OK)
}

func TestE2PathsOfNoSuchLeaf(t *testing.T) {
	for _, n := range []int{0, 1, 2, 3, 5, 8} {
		for _, i := range []int{math.MinInt, math.MinInt + 1, -n - 1, -1, n, n + 1, 4096, math.MaxInt - 1, math.MaxInt} {
			pathIs(t, row(n), i, nil, api.ErrMerkleLeaf)
		}
	}
	pathIs(t, nil, 0, nil, api.ErrMerkleLeaf)
	pathIs(t, []string{}, 0, nil, api.ErrMerkleLeaf)
	// A list's spare room holds none of its leaves.
	pathIs(t, row(5)[:3], 3, nil, api.ErrMerkleLeaf)
}

func TestE2PathsOfManyLeaves(t *testing.T) {
	leaves := row(5000)
	for _, n := range []int{1, 2, 3, 4, 5, 6, 7, 8, 9, 31, 32, 33, 2049, 4095, 4096, 4097, 5000} {
		for _, i := range []int{0, n / 3, n / 2, n - 1} {
			pathIs(t, leaves[:n], i, wantPath(leaves[:n], i), api.OK)
		}
	}
}

func TestE2CheckWithRootsOfOtherLengths(t *testing.T) {
	leaves := row(5)
	root, path := wantRoot(leaves), wantPath(leaves, 1)
	for _, other := range []string{"", "x", root[1:], root[:31], root + "x", root + "\x00", root + root} {
		checks(t, other, 5, 1, leaves[1], path, api.ErrMerkleRoot)
		// It is told ahead of everything else.
		for _, n := range []int{math.MinInt, -1, 0, 4097} {
			checks(t, other, n, 1, leaves[1], path, api.ErrMerkleRoot)
		}
		checks(t, other, 5, -1, leaves[1], path, api.ErrMerkleRoot)
		checks(t, other, 5, 5, "x", nil, api.ErrMerkleRoot)
		checks(t, other, 5, 1, leaves[1], []string{"x"}, api.ErrMerkleRoot)
	}
	checks(t, root, 5, 1, leaves[1], path, api.OK)
}

func TestE2CheckWithOtherNumbers(t *testing.T) {
	leaves := row(5)
	root, path := wantRoot(leaves), wantPath(leaves, 1)
	// No such place is told ahead of a path that proves nothing.
	for _, p := range [][]string{path, nil, {"x"}, more(path, root)} {
		for _, n := range []int{math.MinInt, -4096, -1, 0, 4097, 4098, math.MaxInt} {
			for _, i := range []int{math.MinInt, -1, 0, 1, n - 1, n, math.MaxInt} {
				checks(t, root, n, i, leaves[1], p, api.ErrMerkleLeaf)
			}
		}
		for _, n := range []int{1, 2, 5, 4095, 4096} {
			for _, i := range []int{math.MinInt, -n, -1, n, n + 1, math.MaxInt} {
				checks(t, root, n, i, leaves[1], p, api.ErrMerkleLeaf)
			}
		}
	}
}

func TestE2CheckOfOneLeaf(t *testing.T) {
	for _, s := range []string{"", "a", wantLeaf("a")} {
		checks(t, wantLeaf(s), 1, 0, s, nil, api.OK)
		checks(t, wantLeaf(s), 1, 0, s, []string{}, api.OK)
		checks(t, wantLeaf(s), 1, 0, s+"x", nil, api.ErrMerkleProof)
		checks(t, wantLeaf(s), 1, 0, s, []string{wantLeaf(s)}, api.ErrMerkleProof)
		checks(t, wantLeaf(s), 1, 1, s, nil, api.ErrMerkleLeaf)
		checks(t, wantLeaf(s), 1, -1, s, nil, api.ErrMerkleLeaf)
		checks(t, sum(s), 1, 0, s, nil, api.ErrMerkleProof)
		checks(t, sum(""), 1, 0, s, nil, api.ErrMerkleProof)
	}
}

func TestE2CheckOfGreatRows(t *testing.T) {
	leaves := row(4097)
	for _, n := range []int{4095, 4096} {
		root := wantRoot(leaves[:n])
		for _, i := range []int{0, 1, 2047, 2048, 4093, n - 1} {
			checks(t, root, n, i, leaves[i], wantPath(leaves[:n], i), api.OK)
			checks(t, root, n, i, leaves[i+1], wantPath(leaves[:n], i), api.ErrMerkleProof)
		}
	}
	// Rightly proved, but one leaf more than may be.
	checks(t, wantRoot(leaves), 4097, 0, leaves[0], wantPath(leaves, 0), api.ErrMerkleLeaf)
	checks(t, wantRoot(leaves), 4097, 4096, leaves[4096], wantPath(leaves, 4096), api.ErrMerkleLeaf)
}

// Each way to spoil a path of each leaf of each small row.
func TestE2CheckOfSpoiltPaths(t *testing.T) {
	for n := 1; n <= 20; n++ {
		leaves := row(n)
		root := wantRoot(leaves)
		for i := range n {
			leaf, path := leaves[i], wantPath(leaves, i)
			checks(t, root, n, i, leaf, path, api.OK)
			checks(t, root, n, i, leaf, more(path, path0(path, root)), api.ErrMerkleProof)
			checks(t, root, n, i, leaf, more(path, root), api.ErrMerkleProof)
			checks(t, root, n, i, leaf, append([]string{wantLeaf(leaf)}, path...), api.ErrMerkleProof)
			for k, element := range path {
				checks(t, root, n, i, leaf, slices.Delete(slices.Clone(path), k, k+1), api.ErrMerkleProof)
				for _, other := range []string{"", element[1:], element[:31], element + "x", "\x00" + element, element + element} {
					checks(t, root, n, i, leaf, with(path, k, other), api.ErrMerkleProof)
				}
				for _, bit := range []int{0, 7, 128, 255} {
					checks(t, root, n, i, leaf, with(path, k, turned(element, bit)), api.ErrMerkleProof)
				}
				for m := range k {
					checks(t, root, n, i, leaf, with(with(path, k, path[m]), m, element), api.ErrMerkleProof)
				}
			}
			for _, bit := range []int{0, 7, 128, 255} {
				checks(t, turned(root, bit), n, i, leaf, path, api.ErrMerkleProof)
			}
			for bit := range 8 * len(leaf) {
				checks(t, root, n, i, turned(leaf, bit), path, api.ErrMerkleProof)
			}
		}
	}
}

// path0 is the first element of a path, or another digest if there is none.
func path0(path []string, other string) string {
	if len(path) == 0 {
		return other
	}
	return path[0]
}

func TestE2CheckWithEveryBitTurned(t *testing.T) {
	leaves := row(7)
	for _, i := range []int{0, 3, 6} {
		root, path := wantRoot(leaves), wantPath(leaves, i)
		for bit := range 256 {
			checks(t, turned(root, bit), 7, i, leaves[i], path, api.ErrMerkleProof)
			for k, element := range path {
				checks(t, root, 7, i, leaves[i], with(path, k, turned(element, bit)), api.ErrMerkleProof)
			}
		}
	}
}

// Elements of which two make up for each other in length are refused one by one.
func TestE2CheckWithBytesMovedBetweenElements(t *testing.T) {
	leaves := row(4)
	root, path := wantRoot(leaves), wantPath(leaves, 2)
	checks(t, root, 4, 2, leaves[2], []string{path[0] + path[1][:1], path[1][1:]}, api.ErrMerkleProof)
	checks(t, root, 4, 2, leaves[2], []string{path[0][:31], path[0][31:] + path[1]}, api.ErrMerkleProof)
	checks(t, root, 4, 2, leaves[2], []string{path[0] + path[1]}, api.ErrMerkleProof)
	checks(t, root, 4, 2, leaves[2], []string{path[0] + path[1], ""}, api.ErrMerkleProof)
	checks(t, root, 4, 2, leaves[2], []string{"", path[0] + path[1]}, api.ErrMerkleProof)
}

// An element of another length stands for none of 32 bytes, not for noughts either.
func TestE2CheckWithNoughts(t *testing.T) {
	noughts := strings.Repeat("\x00", 33)
	leaf, zero := wantLeaf("a"), noughts[:32]
	root, right := wantNode(leaf, zero), wantNode(zero, leaf)
	checks(t, root, 2, 0, "a", []string{zero}, api.OK)
	checks(t, right, 2, 1, "a", []string{zero}, api.OK)
	for _, element := range []string{"", noughts[:31], noughts, zero + zero} {
		checks(t, root, 2, 0, "a", []string{element}, api.ErrMerkleProof)
		checks(t, right, 2, 1, "a", []string{element}, api.ErrMerkleProof)
		checks(t, wantNode(root, zero), 4, 0, "a", []string{zero, element}, api.ErrMerkleProof)
		checks(t, wantNode(root, zero), 4, 0, "a", []string{element, zero}, api.ErrMerkleProof)
	}
	checks(t, wantNode(root, zero), 4, 0, "a", []string{zero, zero}, api.OK)
}

func TestE2CheckTakesTheLeafNotItsDigest(t *testing.T) {
	for n := 1; n <= 9; n++ {
		leaves := row(n)
		root := wantRoot(leaves)
		for i := range n {
			path := wantPath(leaves, i)
			checks(t, root, n, i, wantLeaf(leaves[i]), path, api.ErrMerkleProof)
			checks(t, root, n, i, "\x00"+leaves[i], path, api.ErrMerkleProof)
			checks(t, root, n, i, "", path, api.ErrMerkleProof)
		}
	}
	// A node is no leaf of a smaller row.
	a, b, c, d := wantLeaf("a"), wantLeaf("b"), wantLeaf("c"), wantLeaf("d")
	root := merkle.Root([]string{"a", "b", "c", "d"})
	for _, leaf := range []string{a + b, "\x01" + a + b, wantNode(a, b)} {
		checks(t, root, 2, 0, leaf, []string{wantNode(c, d)}, api.ErrMerkleProof)
	}
}

func TestE2CheckOfEmptyDoubledAndLongLeaves(t *testing.T) {
	node := "\x01" + wantLeaf("a") + wantLeaf("b")
	for _, leaves := range [][]string{make([]string, 9), strings.Split("aabbaabba", ""), {node, node[1:], "", node, node, "a", "b"}, {strings.Repeat("long", 999), "", "x"}} {
		for n := 1; n <= len(leaves); n++ {
			for i := range n {
				path := wantPath(leaves[:n], i)
				pathIs(t, leaves[:n], i, path, api.OK)
				checks(t, wantRoot(leaves[:n]), n, i, leaves[i], path, api.OK)
				checks(t, wantRoot(leaves[:n]), n, i, leaves[i]+"x", path, api.ErrMerkleProof)
			}
		}
	}
}

// The path of one place, handed in for another one or for another number of leaves: it is taken only where the words make the same root of it.
func TestE2CheckAtOtherPlaces(t *testing.T) {
	for size := 1; size <= 12; size++ {
		for _, leaves := range [][]string{row(size), make([]string, size)} {
			root := wantRoot(leaves)
			for k := range size {
				path := wantPath(leaves, k)
				for n := 1; n <= 18; n++ {
					for i := range n {
						checks(t, root, n, i, leaves[k], path, wantCheck(root, n, i, leaves[k], path))
					}
				}
			}
		}
	}
	// Of 5 and of 6 leaves, the path of the leaf 1 has the same form.
	leaves := row(5)
	checks(t, wantRoot(leaves), 6, 1, leaves[1], wantPath(leaves, 1), api.OK)
	checks(t, wantRoot(leaves), 4, 1, leaves[1], wantPath(leaves, 1), api.ErrMerkleProof)
}

func TestE2Example4(t *testing.T) {
	checks(t, wantRoot(row(3)), 4097, 0, "leaf 0", wantPath(row(3), 0), api.ErrMerkleLeaf)
}
