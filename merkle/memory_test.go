package merkle_test

import (
	"slices"
	"strconv"
	"sync"
	"testing"

	"strongbox/api"
	"strongbox/merkle"
)

// roomy is a list with spare room, in which something else stands.
func roomy(list []string) []string {
	return append(slices.Clone(list), "spare", "spare", "spare")[:len(list)]
}

// stays calls something and tells whether lists, and what stands in their spare room, are as they were.
func stays(t *testing.T, call func(), lists ...[]string) {
	t.Helper()
	var were [][]string
	for _, list := range lists {
		were = append(were, slices.Clone(list[:cap(list)]))
	}
	call()
	for k, list := range lists {
		if !slices.Equal(list[:cap(list)], were[k]) {
			t.Fatalf("list %d: %x, was %x", k, list[:cap(list)], were[k])
		}
	}
}

// overwrite writes something into a list, and into its spare room.
func overwrite(list []string) {
	list = list[:cap(list)]
	for k := range list {
		list[k] = "overwritten"
	}
}

func TestE6ListsAreNotWrittenInto(t *testing.T) {
	for n := range 20 {
		leaves := roomy(row(n))
		root := wantRoot(leaves)
		stays(t, func() { merkle.Root(leaves) }, leaves)
		for i := -1; i <= n+1; i++ {
			stays(t, func() { merkle.Path(leaves, i) }, leaves)
			stays(t, func() { merkle.Grown(leaves, i) }, leaves)
		}
		for i := range n {
			path, proof := roomy(wantPath(leaves, i)), roomy(wantGrowth(leaves, i))
			for _, place := range []int{i, i + 1} {
				stays(t, func() { merkle.Check(root, n, place, leaves[i], path) }, path)
				stays(t, func() { merkle.CheckGrown(wantRoot(leaves[:i]), place, root, n, proof) }, proof)
				other := roomy(path)
				stays(t, func() { merkle.Clash(root, n, place, leaves[i], path, leaves[i], other) }, path, other)
				stays(t, func() { merkle.Clash(root, n, place, leaves[i], path, "x", other) }, path, other)
			}
		}
	}
}

// A path or proof whose spare room is the rest of a right one is still too short.
func TestE6SpareRoomIsNotRead(t *testing.T) {
	leaves := row(11)
	root := wantRoot(leaves)
	path, proof := wantPath(leaves, 4), wantGrowth(leaves, 7)
	checks(t, root, 11, 4, leaves[4], path[:len(path)-1], api.ErrMerkleProof)
	checksGrown(t, wantRoot(leaves[:7]), 7, root, 11, proof[:len(proof)-1], api.ErrMerkleProof)
	if merkle.Root(leaves[:5]) != wantRoot(leaves[:5:5]) {
		t.Errorf("Root reads the spare room")
	}
}

func TestE6ListsThatComeOutAreNewMemory(t *testing.T) {
	for n := 1; n <= 17; n++ {
		leaves := row(n)
		for i := range n {
			one, _ := merkle.Path(leaves, i)
			other, _ := merkle.Path(leaves, i)
			overwrite(one)
			if !slices.Equal(other, wantPath(row(n), i)) {
				t.Errorf("Path of %d of %d shares memory", i, n)
			}
			oneProof, _ := merkle.Grown(leaves, i)
			otherProof, _ := merkle.Grown(leaves, i)
			overwrite(oneProof)
			if !slices.Equal(otherProof, wantGrowth(row(n), i)) {
				t.Errorf("Grown of %d from %d shares memory", n, i)
			}
			if !slices.Equal(leaves, row(n)) {
				t.Errorf("leaves of %d: %q", n, leaves)
			}
		}
		root := merkle.Root(leaves)
		path, _ := merkle.Path(leaves, n-1)
		proof, _ := merkle.Grown(leaves, n/2)
		overwrite(leaves)
		if root != wantRoot(row(n)) || !slices.Equal(path, wantPath(row(n), n-1)) || !slices.Equal(proof, wantGrowth(row(n), n/2)) {
			t.Errorf("of %d: the leaves are kept", n)
		}
	}
}

// A list that is handed in again with other leaves is looked at anew.
func TestE6NothingIsKept(t *testing.T) {
	list := make([]string, 6)
	for turn := range 5 {
		for k := range list {
			list[k] = strconv.Itoa(turn * k)
		}
		if merkle.Root(list) != wantRoot(list) {
			t.Errorf("Root of %q", list)
		}
		for i := range list {
			pathIs(t, list, i, wantPath(list, i), api.OK)
			growthIs(t, list, i, wantGrowth(list, i), api.OK)
			checks(t, wantRoot(list), 6, i, list[i], wantPath(list, i), api.OK)
		}
	}
}

func TestE6ManyCallsAtOnce(t *testing.T) {
	leaves := row(37)
	root, path, proof := wantRoot(leaves), wantPath(leaves, 20), wantGrowth(leaves, 13)
	before := wantRoot(leaves[:13])
	var group sync.WaitGroup
	for k := range 16 {
		group.Go(func() {
			tree := merkle.New()
			for n, leaf := range leaves {
				tree.Add(leaf + strconv.Itoa(k%2))
				tree.Root()
				if tree.Size() != n+1 {
					t.Errorf("size %d of %d", tree.Size(), n+1)
				}
			}
			own := row(37)
			for n := range own {
				own[n] += strconv.Itoa(k % 2)
			}
			if tree.Root() != wantRoot(own) {
				t.Errorf("the root of tree %d", k)
			}
			for range 10 {
				pathIs(t, leaves, 20, path, api.OK)
				growthIs(t, leaves, 13, proof, api.OK)
				checks(t, root, 37, 20, leaves[20], path, api.OK)
				checksGrown(t, before, 13, root, 37, proof, api.OK)
				refusesClash(t, root, 37, 20, leaves[20], path, leaves[20], path, api.ErrArg)
				if node, errno := merkle.Node(root, before); merkle.Root(leaves) != root || node != wantNode(root, before) || errno != api.OK || merkle.Leaf("a") != wantLeaf("a") {
					t.Errorf("Root, Node or Leaf")
				}
			}
		})
	}
	group.Wait()
}
