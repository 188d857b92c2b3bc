package merkle

import "math/bits"

// firstPart is how many of n leaves, n above 1, lie below a node's left side: the greatest power of two below n.
func firstPart(n int) int { return 1 << (bits.Len(uint(n-1)) - 1) }

// rootOf is the root of some leaves.
func rootOf(leaves []string) digest {
	switch len(leaves) {
	case 0:
		return sumOf("")
	case 1:
		return sumOf(leafText(leaves[0]))
	}
	k := firstPart(len(leaves))
	return over(rootOf(leaves[:k]), rootOf(leaves[k:]))
}

// pathOf is the path of the i-th leaf, which is there.
func pathOf(leaves []string, i int) []string {
	if len(leaves) == 1 {
		return nil
	}
	k := firstPart(len(leaves))
	if i < k {
		return append(pathOf(leaves[:k], i), rootOf(leaves[k:]).text())
	}
	return append(pathOf(leaves[k:], i-k), rootOf(leaves[:k]).text())
}

// growthOf is what shows the first old leaves, at least one, within these; isKnown tells that these begin where the whole row does, so that the root of the old ones, if they are all of these, is the one that is known already.
func growthOf(leaves []string, old int, isKnown bool) []string {
	if old == len(leaves) {
		if isKnown {
			return nil
		}
		return []string{rootOf(leaves).text()}
	}
	k := firstPart(len(leaves))
	if old <= k {
		return append(growthOf(leaves[:k], old, isKnown), rootOf(leaves[k:]).text())
	}
	return append(growthOf(leaves[k:], old-k, false), rootOf(leaves[:k]).text())
}
