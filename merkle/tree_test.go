package merkle_test

import (
	"math/bits"
	"strings"
	"testing"

	"strongbox/merkle"
)

// treeIs holds a tree to the leaves that it has taken.
func treeIs(t *testing.T, tree *merkle.Tree, leaves []string) {
	t.Helper()
	n := len(leaves)
	if tree.Size() != n || tree.Kept() != bits.OnesCount(uint(n)) || tree.Root() != wantRoot(leaves) {
		t.Fatalf("a tree of %d leaves: size %d, keeps %d, root %x, want %d, %x", n, tree.Size(), tree.Kept(), tree.Root(), bits.OnesCount(uint(n)), wantRoot(leaves))
	}
}

func TestE5TreesBehindEveryAdd(t *testing.T) {
	node := "\x01" + wantLeaf("a") + wantLeaf("b")
	for _, leaves := range [][]string{row(200), make([]string, 70), strings.Split("aabbaabbabbbba", ""), {node, node, node[1:], "", wantLeaf("a"), node}} {
		tree := merkle.New()
		treeIs(t, tree, nil)
		for n, leaf := range leaves {
			tree.Add(leaf)
			treeIs(t, tree, leaves[:n+1])
			// Asking changes nothing.
			treeIs(t, tree, leaves[:n+1])
		}
	}
}

func TestE5RootsLaidByHand(t *testing.T) {
	leaves := row(9)
	tree := merkle.New()
	for n, want := range laid(leaves) {
		if tree.Root() != want {
			t.Errorf("the root of a tree of %d leaves = %x, want %x", n, tree.Root(), want)
		}
		if n < len(leaves) {
			tree.Add(leaves[n])
		}
	}
}

func TestE5KeptOfExample3(t *testing.T) {
	kept := map[int]int{0: 0, 1: 1, 2: 1, 3: 2, 4: 1, 5: 2, 6: 2, 7: 3, 8: 1, 15: 4, 16: 1, 4095: 12, 4096: 1}
	tree := merkle.New()
	for n := range 4097 {
		if want, isNamed := kept[n]; isNamed && tree.Kept() != want {
			t.Errorf("a tree of %d leaves keeps %d, want %d", n, tree.Kept(), want)
		}
		tree.Add("leaf")
	}
}

func TestE5FullTrees(t *testing.T) {
	leaves := row(4096)
	tree := merkle.New()
	for n, leaf := range leaves {
		tree.Add(leaf)
		if n == 2046 || n == 2047 || n == 2048 || n == 3333 || n >= 4093 {
			treeIs(t, tree, leaves[:n+1])
		}
	}
	for _, leaf := range []string{"one more", "", leaves[0], leaves[4095]} {
		tree.Add(leaf)
		treeIs(t, tree, leaves)
	}
	for range 5000 {
		tree.Add("many more")
	}
	treeIs(t, tree, leaves)
}

func TestE5TreesInTurns(t *testing.T) {
	one, other, third := merkle.New(), merkle.New(), merkle.New()
	leaves, others := row(80), strings.Split(strings.Repeat("xyz", 40), "")
	for n := range 80 {
		one.Add(leaves[n])
		treeIs(t, one, leaves[:n+1])
		treeIs(t, other, others[:n])
		other.Add(others[n])
		treeIs(t, one, leaves[:n+1])
		treeIs(t, other, others[:n+1])
		treeIs(t, third, nil)
	}
	treeIs(t, merkle.New(), nil)
	// One that is full does not fill another.
	for range 5000 {
		one.Add("x")
	}
	other.Add("80")
	treeIs(t, other, append(others[:80:80], "80"))
}

// A tree's root is held to that of its leaves at every size there is.
func TestE6TreesOfEverySize(t *testing.T) {
	leaves := row(4096)
	tree := merkle.New()
	// Held to a row of peaks in a list, for which the model would take too long at each size.
	var peaks []string
	for n, leaf := range leaves {
		tree.Add(leaf)
		peaks = append(peaks, wantLeaf(leaf))
		for size := n + 1; size%2 == 0; size /= 2 {
			k := len(peaks) - 2
			peaks = append(peaks[:k], wantNode(peaks[k], peaks[k+1]))
		}
		root := peaks[len(peaks)-1]
		for k := len(peaks) - 2; k >= 0; k-- {
			root = wantNode(peaks[k], root)
		}
		if tree.Root() != root || tree.Size() != n+1 || tree.Kept() != len(peaks) {
			t.Fatalf("a tree of %d leaves: size %d, keeps %d, root %x, want %x", n+1, tree.Size(), tree.Kept(), tree.Root(), root)
		}
		if n%131 == 0 && merkle.Root(leaves[:n+1]) != root {
			t.Fatalf("Root of %d leaves = %x, want %x", n+1, merkle.Root(leaves[:n+1]), root)
		}
	}
}
