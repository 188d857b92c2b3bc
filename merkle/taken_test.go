package merkle_test

import (
	"math/rand"
	"slices"
	"testing"

	"strongbox/api"
	"strongbox/merkle"
)

func TestE6EveryPathIsTaken(t *testing.T) {
	leaves := row(70)
	for n := 1; n <= len(leaves); n++ {
		root := merkle.Root(leaves[:n])
		for i := range n {
			path, errno := merkle.Path(leaves[:n], i)
			if errno != api.OK || !slices.Equal(path, wantPath(leaves[:n], i)) {
				t.Fatalf("Path of %d of %d: %d elements, %d", i, n, len(path), errno)
			}
			checks(t, root, n, i, leaves[i], path, api.OK)
		}
	}
}

func TestE6EveryGrowthIsTaken(t *testing.T) {
	leaves := row(70)
	for n := range len(leaves) + 1 {
		root := merkle.Root(leaves[:n])
		for old := range n + 1 {
			proof, errno := merkle.Grown(leaves[:n], old)
			if errno != api.OK || !slices.Equal(proof, wantGrowth(leaves[:n], old)) {
				t.Fatalf("Grown of %d from %d: %d elements, %d", n, old, len(proof), errno)
			}
			checksGrown(t, merkle.Root(leaves[:old]), old, root, n, proof, api.OK)
		}
	}
}

func TestE6PathsAndGrowthsOfGreatRowsAreTaken(t *testing.T) {
	leaves := row(4096)
	for _, n := range []int{4095, 4096} {
		root := merkle.Root(leaves[:n])
		for k := 0; k < n; k += 273 {
			for _, i := range []int{k, n - 1 - k} {
				path, _ := merkle.Path(leaves[:n], i)
				checks(t, root, n, i, leaves[i], path, api.OK)
				proof, _ := merkle.Grown(leaves[:n], i+1)
				checksGrown(t, merkle.Root(leaves[:i+1]), i+1, root, n, proof, api.OK)
			}
		}
	}
}

// Roots of a tree are taken as a row's, while it grows.
func TestE6GrowthOfATree(t *testing.T) {
	leaves := row(40)
	tree := merkle.New()
	roots := []string{tree.Root()}
	for _, leaf := range leaves {
		tree.Add(leaf)
		roots = append(roots, tree.Root())
	}
	for n := range roots {
		for old := range n + 1 {
			proof, _ := merkle.Grown(leaves[:n], old)
			checksGrown(t, roots[old], old, roots[n], n, proof, api.OK)
		}
	}
}

// chanceDigest is a text of mostly 32 bytes, mostly one of a list.
func chanceDigest(r *rand.Rand, list []string) string {
	switch r.Intn(30) {
	case 0:
		return sum(list[r.Intn(len(list))])
	case 1:
		return list[r.Intn(len(list))][1:]
	case 2:
		return list[r.Intn(len(list))] + "x"
	case 3:
		return turned(list[r.Intn(len(list))], r.Intn(256))
	}
	return list[r.Intn(len(list))]
}

// chanceProof is a proof that is left as it is, or is changed here and there.
func chanceProof(r *rand.Rand, proof, list []string) []string {
	changed := slices.Clone(proof)
	for r.Intn(3) == 0 {
		k := r.Intn(len(changed) + 1)
		switch {
		case k == len(changed) || r.Intn(3) == 0:
			changed = slices.Insert(changed, k, chanceDigest(r, list))
		case r.Intn(2) == 0:
			changed = slices.Delete(changed, k, k+1)
		default:
			changed[k] = chanceDigest(r, list)
		}
	}
	return changed
}

// chanceNumber is a number that is mostly left as it is.
func chanceNumber(r *rand.Rand, n int) int {
	switch r.Intn(12) {
	case 0:
		return n + r.Intn(5) - 2
	case 1:
		return r.Intn(40) - 4
	case 2:
		return []int{-1 << 63, -1, 0, 4095, 4096, 4097, 1<<63 - 1}[r.Intn(7)]
	}
	return n
}

// Any roots, numbers and lists: each call ends, and answers what the words say.
func TestE6AnythingThatIsHandedIn(t *testing.T) {
	r := rand.New(rand.NewSource(57))
	taken := 0
	for range 12000 {
		leaves := row(1 + r.Intn(24))
		if r.Intn(4) == 0 {
			leaves = make([]string, len(leaves))
		}
		var list []string
		for _, level := range levels(leaves) {
			list = append(list, level...)
		}
		list = append(list, sum(""))
		size := len(leaves)
		old, i := r.Intn(size+1), r.Intn(size)
		root, oldRoot := wantRoot(leaves), wantRoot(leaves[:old])
		if r.Intn(6) == 0 {
			root, oldRoot = chanceDigest(r, list), chanceDigest(r, list)
		}
		leaf := leaves[(i+r.Intn(8)/7)%size]

		n, at, path := chanceNumber(r, size), chanceNumber(r, i), chanceProof(r, wantPath(leaves, i), list)
		want := wantCheck(root, n, at, leaf, path)
		checks(t, root, n, at, leaf, path, want)
		if _, _, errno := merkle.Clash(root, n, at, leaf, path, leaf, path); errno != want && (want != api.OK || errno != api.ErrArg) {
			t.Errorf("Clash = %d where Check = %d", errno, want)
		}
		from, proof := chanceNumber(r, old), chanceProof(r, wantGrowth(leaves, old), list)
		grown := wantCheckGrown(oldRoot, from, root, n, proof)
		checksGrown(t, oldRoot, from, root, n, proof, grown)
		if want == api.OK && grown == api.OK {
			taken++
		}
	}
	if taken < 1000 || taken > 11000 {
		t.Errorf("%d of 12000 were taken: the test has no weight", taken)
	}
}
