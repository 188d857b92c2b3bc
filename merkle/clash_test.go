package merkle_test

import (
	"math"
	"strconv"
	"testing"

	"strongbox/api"
	"strongbox/merkle"
)

// refusesClash holds Clash to an error, beside which it gives no texts.
func refusesClash(t *testing.T, root string, n, i int, one string, path []string, two string, other []string, want api.Errno) {
	t.Helper()
	a, b, errno := merkle.Clash(root, n, i, one, path, two, other)
	if a != "" || b != "" || errno != want {
		t.Errorf("Clash at %d of %d = %x, %x, %d, want %d", i, n, a, b, errno, want)
	}
}

func TestE4ClashOfTheSameLeafTwice(t *testing.T) {
	for n := 1; n <= 17; n++ {
		for _, leaves := range [][]string{row(n), make([]string, n)} {
			for i := range n {
				path := wantPath(leaves, i)
				refusesClash(t, wantRoot(leaves), n, i, leaves[i], path, leaves[i], path, api.ErrArg)
			}
		}
	}
	leaves := row(4096)
	path := wantPath(leaves, 4095)
	refusesClash(t, wantRoot(leaves), 4096, 4095, leaves[4095], path, leaves[4095], path, api.ErrArg)
}

func TestE4ErrorsOfChecksAheadOfErrArg(t *testing.T) {
	leaves := row(5)
	root, path := wantRoot(leaves), wantPath(leaves, 1)
	for _, two := range []string{leaves[1], "another"} {
		for _, other := range []string{"", root[1:], root + "x"} {
			refusesClash(t, other, 5, 1, leaves[1], path, two, path, api.ErrMerkleRoot)
			refusesClash(t, other, 0, 1, leaves[1], nil, two, nil, api.ErrMerkleRoot)
			refusesClash(t, other, 5, 9, leaves[1], path, two, path, api.ErrMerkleRoot)
		}
		for _, numbers := range [][2]int{{0, 0}, {-1, 0}, {4097, 1}, {5, -1}, {5, 5}, {math.MinInt, math.MinInt}, {math.MaxInt, 1}, {5, math.MaxInt}} {
			refusesClash(t, root, numbers[0], numbers[1], leaves[1], path, two, path, api.ErrMerkleLeaf)
			refusesClash(t, root, numbers[0], numbers[1], leaves[1], nil, two, []string{"x"}, api.ErrMerkleLeaf)
		}
		for _, wrong := range [][]string{nil, path[:2], more(path, root), with(path, 0, path[0][1:]), with(path, 2, turned(path[2], 9)), {path[1], path[0], path[2]}} {
			refusesClash(t, root, 5, 1, leaves[1], wrong, two, path, api.ErrMerkleProof)
			refusesClash(t, root, 5, 1, leaves[1], path, two, wrong, api.ErrMerkleProof)
			refusesClash(t, root, 5, 1, two, path, leaves[1], wrong, api.ErrMerkleProof)
			refusesClash(t, root, 5, 1, leaves[1], wrong, two, wrong, api.ErrMerkleProof)
		}
	}
}

// Nobody has found two leaves that are both taken: whichever of the two is not the one in the row, its Check says so.
func TestE4ClashOfUnlikeLeaves(t *testing.T) {
	for n := 1; n <= 12; n++ {
		leaves := row(n)
		root := wantRoot(leaves)
		for i := range n {
			path := wantPath(leaves, i)
			for k := range n + 1 {
				two, other := "another", path
				if k < n {
					two, other = leaves[k], wantPath(leaves, k)
				}
				if two == leaves[i] {
					continue
				}
				for _, p := range [][]string{path, other} {
					refusesClash(t, root, n, i, leaves[i], path, two, p, api.ErrMerkleProof)
					refusesClash(t, root, n, i, two, p, leaves[i], path, api.ErrMerkleProof)
					refusesClash(t, root, n, i, two, p, two, p, api.ErrMerkleProof)
				}
			}
		}
	}
}

func TestE4Example4(t *testing.T) {
	leaves := []string{"a", "b", "c"}
	for i, leaf := range leaves {
		path, _ := merkle.Path(leaves, i)
		refusesClash(t, merkle.Root(leaves), 3, i, leaf, path, leaf, path, api.ErrArg)
	}
}

// Whoever has one leaf taken has no other one taken at that place, by any path that is at hand.
func TestE6NoOtherLeafIsTaken(t *testing.T) {
	for n := 1; n <= 9; n++ {
		leaves := row(n)
		root := wantRoot(leaves)
		for i := range n {
			for k := range n {
				for other := range n {
					leaf, path := leaves[k], wantPath(leaves, other)
					want := api.ErrMerkleProof
					if k == i && other == i {
						want = api.OK
					}
					checks(t, root, n, i, leaf, path, want)
				}
				checks(t, root, n, i, strconv.Itoa(k), wantPath(leaves, i), api.ErrMerkleProof)
			}
		}
	}
}
