package merkle_test

import (
	"strings"
	"testing"

	"strongbox/api"
	"strongbox/hash"
	"strongbox/merkle"
)

func TestE1Leaf(t *testing.T) {
	for _, s := range []string{"", "a", "\x00", "\x00\x00", "\x01", "\xff", sum("a"), wantLeaf("a"), "\x01" + wantLeaf("a") + wantLeaf("b"), strings.Repeat("long", 5000)} {
		got := merkle.Leaf(s)
		if got != wantLeaf(s) || got != hash.Sum("\x00"+s) {
			t.Errorf("Leaf of %d bytes = %x, want %x", len(s), got, wantLeaf(s))
		}
	}
	// By lengths, around the pieces of a Sum.
	for n := range 200 {
		if s := strings.Repeat("x", n); merkle.Leaf(s) != wantLeaf(s) {
			t.Errorf("Leaf of %d bytes = %x, want %x", n, merkle.Leaf(s), wantLeaf(s))
		}
	}
}

func TestE1LeafIsKnownDigest(t *testing.T) {
	want := "6e340b9cffb37a989ca544e6bb780a2c78901d3fb33738768511a30617afa01d" // the SHA-256 of one byte 0
	if got := hash.Hex(merkle.Leaf("")); got != want {
		t.Errorf("Leaf of nothing = %s, want %s", got, want)
	}
	want = "e3b0c44298fc1c149afbf4c8996fb92427ae41e4649b934ca495991b7852b855" // that of nothing
	if got := hash.Hex(merkle.Root(nil)); got != want {
		t.Errorf("Root of nothing = %s, want %s", got, want)
	}
}

func TestE1Node(t *testing.T) {
	a, b := wantLeaf("a"), wantLeaf("b")
	for _, c := range [][2]string{{a, b}, {b, a}, {a, a}, {strings.Repeat("\x00", 32), strings.Repeat("\xff", 32)}, {"any thirty-two bytes: not a root", b}} {
		left, right := c[0], c[1]
		got, errno := merkle.Node(left, right)
		if got != wantNode(left, right) || errno != api.OK {
			t.Errorf("Node = %x, %d, want %x", got, errno, wantNode(left, right))
		}
	}
}

func TestE1NodeOfOtherLengths(t *testing.T) {
	full := strings.Repeat("d", 64)
	for _, left := range []int{0, 1, 31, 32, 33, 64} {
		for _, right := range []int{0, 1, 31, 32, 33, 64} {
			want, wantErrno := "", api.ErrMerkleRoot
			if left == 32 && right == 32 {
				want, wantErrno = wantNode(full[:32], full[:32]), api.OK
			}
			got, errno := merkle.Node(full[:left], full[:right])
			if got != want || errno != wantErrno {
				t.Errorf("Node of %d and %d bytes = %x, %d, want %x, %d", left, right, got, errno, want, wantErrno)
			}
		}
	}
}

// laid is the roots of 0 to 9 leaves, laid together by hand.
func laid(s []string) []string {
	var l []string
	for _, x := range s {
		l = append(l, wantLeaf(x))
	}
	two := wantNode(l[0], l[1])
	four := wantNode(two, wantNode(l[2], l[3]))
	eight := wantNode(four, wantNode(wantNode(l[4], l[5]), wantNode(l[6], l[7])))
	return []string{
		sum(""),
		l[0],
		two,
		wantNode(two, l[2]),
		four,
		wantNode(four, l[4]),
		wantNode(four, wantNode(l[4], l[5])),
		wantNode(four, wantNode(wantNode(l[4], l[5]), l[6])),
		eight,
		wantNode(eight, l[8]),
	}
}

func TestE1RootsLaidByHand(t *testing.T) {
	as := strings.Split("aaaaaaaaa", "")
	digests := make([]string, 9)
	for k := range digests {
		digests[k] = "\x01" + wantLeaf("a") + wantLeaf("b")
	}
	for _, leaves := range [][]string{row(9), strings.Split("abcdefghi", ""), make([]string, 9), as, strings.Split("aabbccddd", ""), digests} {
		for n, want := range laid(leaves) {
			if got := merkle.Root(leaves[:n]); got != want || wantRoot(leaves[:n]) != want {
				t.Errorf("Root of the first %d of %q = %x, want %x", n, leaves, got, want)
			}
		}
	}
}

func TestE1RootOfExample1(t *testing.T) {
	two, _ := merkle.Node(merkle.Leaf("a"), merkle.Leaf("b"))
	three, _ := merkle.Node(two, merkle.Leaf("c"))
	if got := merkle.Root([]string{"a", "b", "c"}); got != three {
		t.Errorf("Root of a, b, c = %x, want %x", got, three)
	}
}

func TestE1RootsOfManySizes(t *testing.T) {
	leaves := row(9000)
	sizes := []int{255, 256, 257, 1000, 2047, 2048, 2049, 4095, 4096, 4097, 5000, 8191, 8192, 8193, 9000}
	for n := range 130 {
		sizes = append(sizes, n)
	}
	for _, n := range sizes {
		if got := merkle.Root(leaves[:n]); got != wantRoot(leaves[:n]) {
			t.Errorf("Root of %d = %x, want %x", n, got, wantRoot(leaves[:n]))
		}
	}
}

// A row whose leaves are what a node of another row digests has another root.
func TestE1LeavesThatLookLikeNodes(t *testing.T) {
	a, b := wantLeaf("a"), wantLeaf("b")
	root := merkle.Root([]string{"a", "b"})
	for _, leaf := range []string{a + b, "\x01" + a + b, root, "ab"} {
		if merkle.Leaf(leaf) == root || merkle.Root([]string{leaf}) == root {
			t.Errorf("the leaf %x has the root of two leaves", leaf)
		}
	}
	four := merkle.Root([]string{"a", "b", "c", "d"})
	if merkle.Root([]string{wantNode(a, b), wantNode(wantLeaf("c"), wantLeaf("d"))}) == four {
		t.Errorf("two leaves have the root of four")
	}
}

// The order and the number of leaves that are alike are told by the root.
func TestE1RootsDiffer(t *testing.T) {
	seen := map[string]string{}
	for _, leaves := range [][]string{nil, {""}, {"", ""}, {"", "", ""}, {"", "", "", ""}, {"a"}, {"a", ""}, {"", "a"}, {"a", "b"}, {"b", "a"}, {"ab"}, {"a", "b", "b"}, {"a", "b", "b", "b"}, {"a", "b", "a", "b"}} {
		root, told := merkle.Root(leaves), strings.Join(leaves, ",")
		if other, isSeen := seen[root]; isSeen {
			t.Errorf("%d leaves %q have the root of %q", len(leaves), told, other)
		}
		seen[root] = told
	}
}
