package merkle_test

import (
	"crypto/sha256"
	"slices"
	"strconv"
	"testing"

	"strongbox/api"
	"strongbox/merkle"
)

// What the chapter's words make of leaves, reckoned by other means than the package's: roots and paths by levels, from the leaves up, where the last one of an odd level goes up as it is; proofs by walking the digits of two places.

func sum(s string) string {
	d := sha256.Sum256([]byte(s))
	return string(d[:])
}

func wantLeaf(s string) string { return sum("\x00" + s) }

func wantNode(a, b string) string { return sum("\x01" + a + b) }

// levels is the digests of some leaves, those of the nodes over them, and so on up to the root.
func levels(leaves []string) [][]string {
	var level []string
	for _, s := range leaves {
		level = append(level, wantLeaf(s))
	}
	all := [][]string{level}
	for len(level) > 1 {
		var above []string
		for pair := range slices.Chunk(level, 2) {
			if len(pair) == 1 {
				above = append(above, pair[0])
			} else {
				above = append(above, wantNode(pair[0], pair[1]))
			}
		}
		all = append(all, above)
		level = above
	}
	return all
}

func wantRoot(leaves []string) string {
	if len(leaves) == 0 {
		return sum("")
	}
	all := levels(leaves)
	return all[len(all)-1][0]
}

func wantPath(leaves []string, i int) []string {
	var path []string
	for _, level := range levels(leaves) {
		if beside := i ^ 1; beside < len(level) {
			path = append(path, level[beside])
		}
		i /= 2
	}
	return path
}

// wantGrowth is the proof that leaves have grown from their first old ones.
func wantGrowth(leaves []string, old int) []string {
	if old == 0 || old == len(leaves) {
		return nil
	}
	return pieces(leaves, old, true)
}

// pieces is the chapter's P.
func pieces(leaves []string, old int, whole bool) []string {
	if old == len(leaves) {
		if whole {
			return nil
		}
		return []string{wantRoot(leaves)}
	}
	k := 1
	for 2*k < len(leaves) {
		k *= 2
	}
	if old <= k {
		return append(pieces(leaves[:k], old, whole), wantRoot(leaves[k:]))
	}
	return append(pieces(leaves[k:], old-k, false), wantRoot(leaves[:k]))
}

// allDigests tells whether each text of a list has 32 bytes.
func allDigests(list ...string) bool {
	return !slices.ContainsFunc(list, func(s string) bool { return len(s) != 32 })
}

// wantCheck is the answer of Check.
func wantCheck(root string, n, i int, leaf string, path []string) api.Errno {
	if len(root) != 32 {
		return api.ErrMerkleRoot
	}
	if n < 1 || n > 4096 || i < 0 || i >= n {
		return api.ErrMerkleLeaf
	}
	if !allDigests(path...) {
		return api.ErrMerkleProof
	}
	at, last, reached := i, n-1, wantLeaf(leaf)
	for _, beside := range path {
		if last == 0 {
			return api.ErrMerkleProof
		}
		if at%2 == 0 && at < last {
			reached = wantNode(reached, beside)
		} else {
			reached = wantNode(beside, reached)
			// The last one of an odd level has gone up as it is.
			for ; at%2 == 0 && at > 0; at, last = at/2, last/2 {
			}
		}
		at, last = at/2, last/2
	}
	if last != 0 || reached != root {
		return api.ErrMerkleProof
	}
	return api.OK
}

// wantCheckGrown is the answer of CheckGrown.
func wantCheckGrown(oldRoot string, old int, root string, n int, proof []string) api.Errno {
	if !allDigests(oldRoot, root) {
		return api.ErrMerkleRoot
	}
	if n < 0 || n > 4096 || old < 0 || old > n {
		return api.ErrMerkleGrow
	}
	if !allDigests(proof...) {
		return api.ErrMerkleProof
	}
	taken := false
	switch {
	case n == 0:
		taken = len(proof) == 0 && oldRoot == sum("") && root == sum("")
	case old == 0:
		taken = len(proof) == 0 && oldRoot == sum("")
	case old == n:
		taken = len(proof) == 0 && oldRoot == root
	default:
		taken = growthIsTaken(oldRoot, old, root, n, proof)
	}
	if !taken {
		return api.ErrMerkleProof
	}
	return api.OK
}

// growthIsTaken walks the digits of the places of the last old leaf and of the last one.
func growthIsTaken(oldRoot string, old int, root string, n int, proof []string) bool {
	at, last := old-1, n-1
	for ; at%2 == 1; at, last = at/2, last/2 {
	}
	if old&(old-1) == 0 {
		proof = append([]string{oldRoot}, proof...)
	}
	if len(proof) == 0 {
		return false
	}
	before, after := proof[0], proof[0]
	for _, beside := range proof[1:] {
		if last == 0 {
			return false
		}
		if at%2 == 0 && at < last {
			after = wantNode(after, beside)
		} else {
			before, after = wantNode(beside, before), wantNode(beside, after)
			for ; at%2 == 0 && at > 0; at, last = at/2, last/2 {
			}
		}
		at, last = at/2, last/2
	}
	return last == 0 && before == oldRoot && after == root
}

// row is n leaves of which no two are alike.
func row(n int) []string {
	var leaves []string
	for i := range n {
		leaves = append(leaves, "leaf "+strconv.Itoa(i))
	}
	return leaves
}

// with is a list in which one element is another one.
func with(list []string, k int, s string) []string {
	other := slices.Clone(list)
	other[k] = s
	return other
}

// more is a list with one element more.
func more(list []string, s string) []string { return append(slices.Clone(list), s) }

// turned is a text in which one bit is turned.
func turned(s string, bit int) string {
	b := []byte(s)
	b[bit/8] ^= 1 << (bit % 8)
	return string(b)
}

// checks holds an answer of Check to what it must be.
func checks(t *testing.T, root string, n, i int, leaf string, path []string, want api.Errno) {
	t.Helper()
	if got := merkle.Check(root, n, i, leaf, path); got != want {
		t.Errorf("Check of leaf %d of %d, a root of %d bytes and %d elements = %d, want %d", i, n, len(root), len(path), got, want)
	}
}

// checksGrown holds an answer of CheckGrown to what it must be.
func checksGrown(t *testing.T, oldRoot string, old int, root string, n int, proof []string, want api.Errno) {
	t.Helper()
	if got := merkle.CheckGrown(oldRoot, old, root, n, proof); got != want {
		t.Errorf("CheckGrown from %d to %d, roots of %d and %d bytes and %d elements = %d, want %d", old, n, len(oldRoot), len(root), len(proof), got, want)
	}
}

// pathIs holds an answer of Path to what it must be.
func pathIs(t *testing.T, leaves []string, i int, want []string, wantErrno api.Errno) {
	t.Helper()
	if got, errno := merkle.Path(leaves, i); !slices.Equal(got, want) || errno != wantErrno {
		t.Errorf("Path of %d of %d = %x, %d, want %x, %d", i, len(leaves), got, errno, want, wantErrno)
	}
}

// growthIs holds an answer of Grown to what it must be.
func growthIs(t *testing.T, leaves []string, old int, want []string, wantErrno api.Errno) {
	t.Helper()
	if got, errno := merkle.Grown(leaves, old); !slices.Equal(got, want) || errno != wantErrno {
		t.Errorf("Grown of %d from %d = %x, %d, want %x, %d", len(leaves), old, got, errno, want, wantErrno)
	}
}
