package merkle

// hasGrown tells whether a proof shows that n leaves have grown from their first old ones, old being 0 to n.
func hasGrown(before digest, old int, after digest, n int, proof []string) bool {
	if old == 0 {
		// What was nothing may have grown to anything, but not to another nothing.
		none := sumOf("")
		return len(proof) == 0 && before == none && (n > 0 || after == none)
	}
	roots, fits := rootsBy(before, old, n, proof, true)
	return fits && roots.old == before && roots.all == after
}

// grownRoots is the root of the old leaves within some, and that of all of these.
type grownRoots struct {
	old, all digest
}

// rootsBy is what a proof comes to for the first old of n leaves, old being 1 to n; it tells also whether the proof has the form of one. Where it is known, before stands for what a proof leaves out.
func rootsBy(before digest, old, n int, proof []string, isKnown bool) (grownRoots, bool) {
	if old == n && isKnown {
		return grownRoots{old: before, all: before}, len(proof) == 0
	}
	below, last, isThere := cutLast(proof)
	if !isThere {
		return grownRoots{}, false
	}
	if old == n {
		return grownRoots{old: last, all: last}, len(below) == 0
	}
	k := firstPart(n)
	if old <= k {
		roots, fits := rootsBy(before, old, k, below, isKnown)
		return grownRoots{old: roots.old, all: over(roots.all, last)}, fits
	}
	roots, fits := rootsBy(before, old-k, n-k, below, false)
	return grownRoots{old: over(last, roots.old), all: over(last, roots.all)}, fits
}
