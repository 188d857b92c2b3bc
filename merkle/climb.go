package merkle

import "strongbox/api"

// place is where a leaf is said to stand: the i-th of n, below a root.
type place struct {
	root string
	n, i int
	// digester is sumOf. A test hands in a weaker one to see a clash: nobody knows two texts of one Sum.
	digester func(text string) digest
}

// rung is a text that was digested on the way from a leaf up to the root, and its digest.
type rung struct {
	text string
	sum  digest
}

// climb is the rungs by which a leaf and its path come to the root; an error, if they do not.
func (p place) climb(leaf string, path []string) ([]rung, api.Errno) {
	root, isDigest := readDigest(p.root)
	if !isDigest {
		return nil, api.ErrMerkleRoot
	}
	if p.n < 1 || p.n > api.MaxLeaves || p.i < 0 || p.i >= p.n {
		return nil, api.ErrMerkleLeaf
	}
	rungs, fits := p.rungs(p.n, p.i, leaf, path)
	if !fits || top(rungs) != root {
		return nil, api.ErrMerkleProof
	}
	return rungs, api.OK
}

// rungs is those from a leaf, the i-th of n, up to the root over these n; it tells also whether the path has the form of one.
func (p place) rungs(n, i int, leaf string, path []string) ([]rung, bool) {
	if n == 1 {
		return []rung{p.rungOf(leafText(leaf))}, len(path) == 0
	}
	below, beside, isThere := cutLast(path)
	if !isThere {
		return nil, false
	}
	k := firstPart(n)
	if i < k {
		rungs, fits := p.rungs(k, i, leaf, below)
		if !fits {
			return nil, false
		}
		return append(rungs, p.rungOf(nodeText(top(rungs), beside))), true
	}
	rungs, fits := p.rungs(n-k, i-k, leaf, below)
	if !fits {
		return nil, false
	}
	return append(rungs, p.rungOf(nodeText(beside, top(rungs)))), true
}

func (p place) rungOf(text string) rung { return rung{text: text, sum: p.digester(text)} }

// top is the digest that some rungs, at least one, come to.
func top(rungs []rung) digest { return rungs[len(rungs)-1].sum }

// cutLast is a proof without its last element, and that one as a digest, if it is there and is one.
func cutLast(proof []string) ([]string, digest, bool) {
	if len(proof) == 0 {
		return nil, digest{}, false
	}
	last, isDigest := readDigest(proof[len(proof)-1])
	return proof[:len(proof)-1], last, isDigest
}

// clash is two different texts of one digest, if two different leaves are proved at the place.
func (p place) clash(one string, path []string, two string, other []string) (string, string, api.Errno) {
	first, errno := p.climb(one, path)
	if errno != api.OK {
		return "", "", errno
	}
	second, errno := p.climb(two, other)
	if errno != api.OK {
		return "", "", errno
	}
	if one == two {
		return "", "", api.ErrArg
	}
	a, b := firstClash(first, second)
	return a, b, api.OK
}

// firstClash is the first two texts, at one height, that are different and have the same digest. There are some, if the leaves are different and the roots are not: different digests make the texts over them different.
func firstClash(one, two []rung) (string, string) {
	for height, r := range one {
		if r.text != two[height].text && r.sum == two[height].sum {
			return r.text, two[height].text
		}
	}
	return "", ""
}
