// Package hash: digests, keyed digests, derived keys: see DOC.md, chapter 1.
package hash

import "strongbox/api"

// What the key's bytes are xored with, so that the two digests of a Mac begin differently.
const (
	innerMask = 54
	outerMask = 92
)

// Sum is the SHA-256 of a text: 32 bytes.
func Sum(s string) string {
	h := New()
	h.Write(s)
	return h.Sum()
}

// Mac is the HMAC-SHA-256 of a text by a key of any length: 32 bytes.
func Mac(key, s string) string {
	if len(key) > pieceSize {
		key = Sum(key)
	}
	inner := keyed(key, innerMask)
	inner.Write(s)
	outer := keyed(key, outerMask)
	outer.Write(inner.Sum())
	return outer.Sum()
}

// keyed is a Hasher that has taken a key of at most one piece, masked.
func keyed(key string, mask byte) *Hasher {
	var padded [pieceSize]byte
	copy(padded[:], key)
	for i := range padded {
		padded[i] ^= mask
	}
	h := New()
	h.Write(string(padded[:]))
	return h
}

// Derive is n bytes that hang on a key and an info.
func Derive(key, info string, n int) (string, api.Errno) {
	if n < 0 {
		return "", api.ErrArg
	}
	if n > api.MaxDerive {
		return "", api.ErrHashLong
	}
	derived := make([]byte, 0, n+api.DigestSize)
	last := ""
	// n is at most 255 digests long, so that i always fits into its byte.
	for i := 1; len(derived) < n; i++ {
		last = Mac(key, last+info+string([]byte{byte(i)}))
		derived = append(derived, last...)
	}
	return string(derived[:n]), api.OK
}

// Same tells whether two texts are the same, by all their bytes.
func Same(a, b string) bool {
	if len(a) != len(b) {
		return false
	}
	// No way out of the loop: how long it takes must not tell where they differ.
	var differing byte
	for i := range len(a) {
		differing |= a[i] ^ b[i]
	}
	return differing == 0
}
