package replica

import "strongbox/pack"

// The bytes of a kind, of how many sectors there are and of which one, of an image's number, of a check.
const (
	kindWidth   = 1
	countWidth  = 2
	numberWidth = 4
	checkSize   = 4
)

// checked is what was written, and behind it its check.
func checked(w *pack.Writer) string {
	s, _ := w.Done()
	return s + checkOf(s)
}

// isChecked tells whether a text, which has room for one, has the right check at its end.
func isChecked(s string) bool {
	at := len(s) - checkSize
	return s[at:] == checkOf(s[:at])
}

// checkOf is the check of a text as bytes, the lowest first.
func checkOf(s string) string {
	check := pack.Check(s)
	return string([]byte{byte(check), byte(check >> 8), byte(check >> 16), byte(check >> 24)})
}
