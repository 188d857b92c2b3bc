package merkle

import (
	"strongbox/api"
	"strongbox/hash"
)

// What a text begins with, so that no leaf's text is a node's.
const (
	leafMark = "\x00"
	nodeMark = "\x01"
)

// digest is the Sum of a text: an array, so that two of them are compared by ==.
type digest [api.DigestSize]byte

// sumOf is the digest of a text as it is.
func sumOf(text string) digest {
	var d digest
	copy(d[:], hash.Sum(text))
	return d
}

// readDigest is a text as a digest, if it is as long as one.
func readDigest(text string) (digest, bool) {
	var d digest
	if len(text) != len(d) {
		return d, false
	}
	copy(d[:], text)
	return d, true
}

// text is the digest's bytes.
func (d digest) text() string { return string(d[:]) }

// leafText is what is digested of a leaf.
func leafText(leaf string) string { return leafMark + leaf }

// nodeText is what is digested of a node.
func nodeText(left, right digest) string { return nodeMark + left.text() + right.text() }

// over is the digest of the node over two.
func over(left, right digest) digest { return sumOf(nodeText(left, right)) }
