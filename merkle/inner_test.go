package merkle

import (
	"math/rand"
	"slices"
	"strconv"
	"testing"

	"strongbox/api"
	"strongbox/hash"
)

// weak is a digest of which there are four only, so that many texts have the same one.
func weak(text string) digest {
	return digest{hash.Sum(text)[0] & 3}
}

// weakTexts is the texts that are digested from a leaf, the i-th of n, up to the root, by walking the digits of its place.
func weakTexts(n, i int, leaf string, path []string) []string {
	texts := []string{"\x00" + leaf}
	reached := weak(texts[0])
	for last := n - 1; last > 0; i, last = i/2, last/2 {
		switch {
		case i%2 == 1:
			texts = append(texts, "\x01"+path[0]+string(reached[:]))
		case i < last:
			texts = append(texts, "\x01"+string(reached[:])+path[0])
		default:
			continue // the last one of an odd level goes up as it is
		}
		path = path[1:]
		reached = weak(texts[len(texts)-1])
	}
	return texts
}

// pathLength is how many elements the path of a place has.
func pathLength(n, i int) int {
	length := 0
	for last := n - 1; last > 0; i, last = i/2, last/2 {
		if i%2 == 1 || i < last {
			length++
		}
	}
	return length
}

// chancePath is a path of so many elements, weak digests and others.
func chancePath(r *rand.Rand, length int) []string {
	var path []string
	for range length {
		element := make([]byte, 32)
		element[0] = byte(r.Intn(4))
		element[31] = byte(r.Intn(2))
		path = append(path, string(element))
	}
	return path
}

// Whoever fools it hands over a clash: whatever is taken at one place by a weak digest, two texts of one digest come out, the lowest ones.
func TestE6WhoeverFoolsItHandsOverAClash(t *testing.T) {
	r := rand.New(rand.NewSource(19))
	heights := map[int]int{}
	for range 60000 {
		n := 1 + r.Intn(20)
		i := r.Intn(n)
		one, two := strconv.Itoa(r.Intn(50)), strconv.Itoa(r.Intn(50))
		path := chancePath(r, pathLength(n, i))
		other := path
		if r.Intn(2) == 0 {
			other = chancePath(r, len(path))
		}
		first, second := weakTexts(n, i, one, path), weakTexts(n, i, two, other)
		root, otherRoot := weak(first[len(first)-1]), weak(second[len(second)-1])
		a, b, errno := place{root.text(), n, i, weak}.clash(one, path, two, other)
		if one == two || root != otherRoot {
			want := api.ErrArg
			if root != otherRoot {
				want = api.ErrMerkleProof
			}
			if a != "" || b != "" || errno != want {
				t.Fatalf("%d of %d, %s and %s: %x, %x, %d, want %d", i, n, one, two, a, b, errno, want)
			}
			continue
		}
		height := 0
		for first[height] == second[height] || weak(first[height]) != weak(second[height]) {
			height++
		}
		heights[height]++
		if a != first[height] || b != second[height] || a == b || weak(a) != weak(b) || errno != api.OK {
			t.Fatalf("%d of %d, %s and %s: %x, %x, %d, want %x, %x", i, n, one, two, a, b, errno, first[height], second[height])
		}
	}
	for height := range 4 {
		if heights[height] < 100 {
			t.Errorf("%d clashes at height %d: the test has no weight", heights[height], height)
		}
	}
}

// twoLeaves is two different leaves that have one weak digest, or have not.
func twoLeaves(same bool) (string, string) {
	for k := 1; ; k++ {
		one, two := "leaf 0", "leaf "+strconv.Itoa(k)
		if (weak(leafText(one)) == weak(leafText(two))) == same {
			return one, two
		}
	}
}

func TestE4ClashOfLeaves(t *testing.T) {
	one, two := twoLeaves(true)
	root := weak(leafText(one))
	a, b, errno := place{root.text(), 1, 0, weak}.clash(one, nil, two, nil)
	if a != "\x00"+one || b != "\x00"+two || errno != api.OK {
		t.Errorf("of one: %q, %q, %d", a, b, errno)
	}
	// Texts over leaves that clash are the same: the clash lies below them.
	path := []string{weak("x").text(), weak("y").text()}
	texts := weakTexts(4, 2, one, path)
	root = weak(texts[2])
	a, b, errno = place{root.text(), 4, 2, weak}.clash(two, path, one, path)
	if a != "\x00"+two || b != "\x00"+one || errno != api.OK {
		t.Errorf("of four: %q, %q, %d", a, b, errno)
	}
}

func TestE4ClashOfNodes(t *testing.T) {
	one, two := twoLeaves(false)
	left := weak(leafText(one)).text()
	right := weak(leafText(two)).text()
	// An element is 32 bytes, whatever stands in them: they are looked through until two nodes clash.
	for k := range 1000 {
		beside := digest{9, byte(k), byte(k >> 8)}.text()
		a, b := "\x01"+left+beside, "\x01"+right+beside
		if weak(a) != weak(b) {
			continue
		}
		got, other, errno := place{weak(a).text(), 2, 0, weak}.clash(one, []string{beside}, two, []string{beside})
		if got != a || other != b || errno != api.OK {
			t.Errorf("%x, %x, %d, want %x, %x", got, other, errno, a, b)
		}
		return
	}
	t.Errorf("no two nodes clash")
}

// Leaves that are the same come to one root by paths that differ: that is no clash of leaves.
func TestE4ClashOfOneLeafByPathsThatDiffer(t *testing.T) {
	leaf := "leaf"
	sum := weak(leafText(leaf)).text()
	for k := 1; k < 1000; k++ {
		one, two := digest{9}.text(), digest{9, byte(k), byte(k >> 8)}.text()
		if weak("\x01"+sum+one) != weak("\x01"+sum+two) {
			continue
		}
		root := weak("\x01" + sum + one).text()
		a, b, errno := place{root, 2, 0, weak}.clash(leaf, []string{one}, leaf, []string{two})
		if a != "" || b != "" || errno != api.ErrArg {
			t.Errorf("%x, %x, %d", a, b, errno)
		}
		return
	}
	t.Errorf("no two paths come to one root")
}

// The rungs of a leaf are told by the chapter's Sum, from the leaf up.
func TestE4Rungs(t *testing.T) {
	leaves := []string{"a", "b", "c", "d", "e"}
	path := pathOf(leaves, 2)
	root := Root(leaves)
	rungs, errno := place{root, 5, 2, sumOf}.climb("c", path)
	if errno != api.OK || len(rungs) != 4 {
		t.Fatalf("%d rungs, %d", len(rungs), errno)
	}
	c := hash.Sum("\x00c")
	cd := hash.Sum("\x01" + c + path[0])
	four := hash.Sum("\x01" + path[1] + cd)
	want := []string{"\x00c", "\x01" + c + path[0], "\x01" + path[1] + cd, "\x01" + four + path[2]}
	for height, r := range rungs {
		if r.text != want[height] || r.sum.text() != hash.Sum(want[height]) {
			t.Errorf("rung %d: %q, %x", height, r.text, r.sum)
		}
	}
	if top(rungs).text() != root {
		t.Errorf("they come to %x", top(rungs))
	}
}

func TestE5PeaksOfFullTrees(t *testing.T) {
	if 1<<(peakCount-1) != api.MaxLeaves {
		t.Errorf("%d peaks do not fit %d leaves", peakCount, api.MaxLeaves)
	}
}

// No digest is kept but those that Kept counts.
func TestE5NoOtherDigestIsKept(t *testing.T) {
	tree := New()
	for n := range 300 {
		kept := len(slices.DeleteFunc(slices.Clone(tree.peaks[:]), func(d digest) bool { return d == digest{} }))
		if kept != tree.Kept() {
			t.Errorf("a tree of %d leaves keeps %d digests, and tells %d", n, kept, tree.Kept())
		}
		tree.Add(strconv.Itoa(n))
	}
}

func TestE1FirstPart(t *testing.T) {
	for n := 2; n <= 5000; n++ {
		if k := firstPart(n); k >= n || 2*k < n || k&(k-1) != 0 {
			t.Fatalf("firstPart(%d) = %d", n, k)
		}
	}
}
