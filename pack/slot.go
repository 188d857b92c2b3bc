package pack

import "strongbox/api"

// Slots tells how many slots of a size are in a body.
func Slots(body string, size int) int {
	if size < 1 {
		return 0
	}
	return len(body) / size
}

// Slot is the k-th.
func Slot(body string, size, k int) (string, api.Errno) {
	if size < 1 {
		return "", api.ErrArg
	}
	if k < 0 || k >= Slots(body, size) {
		return "", api.ErrPackSlot
	}
	return body[k*size : (k+1)*size], api.OK
}

// SetSlot is a body with another k-th.
func SetSlot(body string, size, k int, s string) (string, api.Errno) {
	if size < 1 || len(s) != size {
		return "", api.ErrArg
	}
	if k < 0 || k >= Slots(body, size) {
		return "", api.ErrPackSlot
	}
	return body[:k*size] + s + body[(k+1)*size:], api.OK
}
