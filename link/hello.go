package link

import (
	"strongbox/api"
	"strongbox/hash"
)

// What a hello begins with, the bytes of a tag, and where a hello's nonce and tag stand.
const (
	helloLetters = "LH"
	tagSize      = 16
	nonceStart   = len(helloLetters) + 1
	helloTag     = nonceStart + api.DrawSize
	helloSize    = helloTag + tagSize
)

// helloOf is the hello of a side with a nonce.
func helloOf(key string, side int, nonce string) string {
	return tagged(key, helloLetters+sideText(side)+nonce)
}

// greeted is the nonce of a side's hello, if a frame is one by that key.
func greeted(key string, side int, frame string) (string, bool) {
	if len(frame) != helloSize {
		return "", false
	}
	nonce := frame[nonceStart:helloTag]
	if !hash.Same(helloOf(key, side, nonce), frame) {
		return "", false
	}
	return nonce, true
}

// sideText is a side as a byte.
func sideText(side int) string { return string([]byte{byte(side)}) }

// tagged is a text, and behind it its tag by a key.
func tagged(key, s string) string { return s + hash.Mac(key, s)[:tagSize] }
