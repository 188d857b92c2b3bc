package wire

import (
	"strings"

	"strongbox/pack"
)

// The bytes of a frame's head (a request's kind, a reply's status) and of its check.
const (
	headSize  = 1
	checkSize = 4
)

// fieldsSize is how many bytes fields have together.
func fieldsSize(fields []field) int {
	n := 0
	for _, f := range fields {
		n += f.size()
	}
	return n
}

// frameSize is how many bytes a frame with such fields has.
func frameSize(fields []field) int {
	return headSize + fieldsSize(fields) + checkSize
}

// isFrame tells whether s has as many bytes as a frame with such fields, and ends with the check of its bytes up to there, with those of ahead in front of them.
func isFrame(s string, fields []field, ahead string) bool {
	if len(s) != frameSize(fields) {
		return false
	}
	end := len(s) - checkSize
	return checkOf(ahead+s[:end]) == s[end:]
}

// checkOf is the check of bytes, as it stands behind them.
func checkOf(s string) string {
	check := pack.Check(s)
	w := pack.NewWriter()
	// The lowest byte first: only so does the check lie side by side with the bits that it is of.
	w.Num(1, check&255, check>>8&255, check>>16&255, check>>24)
	bytes, _ := w.Done()
	return bytes
}

// kindByte is a kind as a byte: a reply's check is of it too, so that no reply is taken for one to another kind.
func kindByte(kind int) string {
	return string([]byte{byte(kind)})
}

// noughts is so many bytes 0.
func noughts(n int) string {
	return strings.Repeat("\x00", n)
}
