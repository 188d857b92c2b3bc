package quorum

import (
	"strings"

	"strongbox/api"
	"strongbox/pack"
)

// The bytes of a kind or a node's number, of how many there are, of a place, of a ballot.
const (
	smallWidth  = 1
	countWidth  = 2
	placeWidth  = 2
	ballotWidth = 4
)

// What a frame begins with.
const frameLetters = "QM"

// frame is one, taken apart.
type frame struct {
	from, to int
	says     message
}

// text is a frame as bytes.
func (f frame) text() string {
	w := pack.NewWriter()
	w.Raw(frameLetters)
	w.Num(smallWidth, f.says.kind(), f.from, f.to)
	f.says.lay(w)
	return checked(w)
}

// readFrame takes a frame apart, if it is one.
func readFrame(s string) (frame, bool) {
	r := pack.NewReader(s)
	r.Raw(len(frameLetters))
	kind, from, to := r.Num(smallWidth), r.Num(smallWidth), r.Num(smallWidth)
	says, isKind := readMessage(kind, r)
	if !isKind {
		return frame{}, false
	}
	f := frame{from, to, says}
	// Its text tells all that was read: if that is the same text, nothing else stood in it.
	if !f.mayBe() || f.text() != s {
		return frame{}, false
	}
	return f, true
}

// mayBe tells whether a frame says nothing that none may.
func (f frame) mayBe() bool {
	return f.from != f.to && f.from < api.MaxNodes && f.to < api.MaxNodes && f.says.mayGo(f.from, f.to)
}

// isBallot, isPlace and isValue tell whether there is such a one; numbers that were read are not below 0.
func isBallot(n int) bool { return n <= api.MaxBallot }

func isPlace(n int) bool { return n < api.MaxPlaces }

func isValue(s string) bool { return len(s) <= api.MaxLogValue }

// belongs tells whether a number is a ballot that belongs to a node.
func belongs(ballot, id int) bool { return isBallot(ballot) && ballot%api.MaxNodes == id }

// layValue lays down how many bytes a value has, and these.
func layValue(w *pack.Writer, value string) {
	w.Num(countWidth, len(value))
	w.Raw(value)
}

// readValue takes a value: a copy, for the whole text would be kept with a piece of it.
func readValue(r *pack.Reader) string { return strings.Clone(r.Raw(r.Num(countWidth))) }

// checked is what was laid down, and behind it its check, the lowest byte first.
func checked(w *pack.Writer) string {
	s, _ := w.Done()
	check := pack.Check(s)
	return s + string([]byte{byte(check), byte(check >> 8), byte(check >> 16), byte(check >> 24)})
}
