package seal

import (
	"strongbox/api"
	"strongbox/hash"
)

// What a wrapped key's two Macs begin with, and the bytes of each number of its place.
const (
	wrapLetters = "wrap"
	tagLetters  = "tag"
	placeSize   = 4
)

// Wrap hides a block's key for a place of a volume.
func Wrap(master string, volume, block int, key string) (string, api.Errno) {
	if !isKey(master) || !isKey(key) {
		return "", api.ErrSealKey
	}
	if !isPlace(volume, block) {
		return "", api.ErrArg
	}
	hider := placeKey(master, volume, block)
	hidden := laidOn(hider, 0, key)
	return hidden + tag(hider, hidden), api.OK
}

// Unwrap finds it again.
func Unwrap(master string, volume, block int, wrapped string) (string, api.Errno) {
	if !isKey(master) {
		return "", api.ErrSealKey
	}
	if !isPlace(volume, block) {
		return "", api.ErrArg
	}
	if len(wrapped) != api.WrappedSize {
		return "", api.ErrSealSize
	}
	hider := placeKey(master, volume, block)
	hidden := wrapped[:api.KeySize]
	if !hash.Same(tag(hider, hidden), wrapped[api.KeySize:]) {
		return "", api.ErrSealTag
	}
	return laidOn(hider, 0, hidden), api.OK
}

// isPlace tells whether a volume of that number can have a block of that number.
func isPlace(volume, block int) bool {
	return volume >= 0 && volume <= api.MaxVolume && block >= 0 && block < api.MaxBlocks
}

// placeKey is the key that hides another one, for one place of one owner: elsewhere the tag will not fit.
func placeKey(master string, volume, block int) string {
	return hash.Mac(master, wrapLetters+number(volume, placeSize)+number(block, placeSize))
}

// tag is what stands behind a hidden key, so that no other bytes pass for one.
func tag(hider, hidden string) string {
	return hash.Mac(hider, tagLetters+hidden)[:api.WrappedSize-api.KeySize]
}
