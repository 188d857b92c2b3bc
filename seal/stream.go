package seal

import (
	"iter"

	"strongbox/api"
	"strongbox/hash"
)

// A stream's bytes, and the bytes that stand for a number within it.
const (
	streamSize  = 65536
	counterSize = 8
)

// Stream is n bytes of a key's stream, from a place on.
func Stream(key string, from, n int) (string, api.Errno) {
	if errno := partErrno(key, from, n); errno != api.OK {
		return "", errno
	}
	return string(part(key, from, n)), api.OK
}

// Xor is a text by a key's stream, from a place on.
func Xor(key string, from int, s string) (string, api.Errno) {
	if errno := partErrno(key, from, len(s)); errno != api.OK {
		return "", errno
	}
	return laidOn(key, from, s), api.OK
}

// partErrno says why there is no such part of such a stream, or OK.
func partErrno(key string, from, n int) api.Errno {
	if !isKey(key) {
		return api.ErrSealKey
	}
	// n is taken from the size, not added to from: the sum might not fit into an int.
	if from < 0 || n < 0 || from > streamSize-n {
		return api.ErrSealRange
	}
	return api.OK
}

// laidOn is a text with a part of a key's stream laid on, which must be there.
func laidOn(key string, from int, s string) string {
	laid := part(key, from, len(s))
	for i := range laid {
		laid[i] ^= s[i]
	}
	return string(laid)
}

// part is n bytes of a key's stream, which must be there, as memory of its own.
func part(key string, from, n int) []byte {
	start := from % api.DigestSize
	end := start + n
	given := make([]byte, 0, end+api.DigestSize)
	for sum := range sums(key, from/api.DigestSize) {
		given = append(given, sum...)
		if len(given) >= end {
			break
		}
	}
	// What the last Sum gave too much lies behind the part: nothing can grow over it.
	return given[start:end:end]
}

// sums goes through a key's stream, Sum by Sum, from the one of a number on.
func sums(key string, first int) iter.Seq[string] {
	return func(yield func(string) bool) {
		for i := first; i < streamSize/api.DigestSize; i++ {
			if !yield(hash.Sum(key + number(i, counterSize))) {
				return
			}
		}
	}
}

// number is a number, which is not below 0, by so many bytes.
func number(v, size int) string {
	b := make([]byte, size)
	for i := size - 1; i >= 0; i-- {
		b[i] = byte(v)
		v >>= 8
	}
	return string(b)
}
