package replica

import (
	"strings"

	"strongbox/api"
	"strongbox/pack"
)

// The kinds of words: of a replica that has nothing, and of one that has an image.
const (
	nothing = iota
	something
)

// What a word begins with, and the bytes of one.
const (
	wordLetters = "RW"
	wordSize    = len(wordLetters) + kindWidth + numberWidth + api.DigestSize + checkSize
)

// word is one, taken apart: which image the replica has, and its root.
type word struct {
	kind, number int
	root         string
}

// wordOfNothing is the word of a replica that has nothing.
func wordOfNothing() word {
	return word{nothing, noImage, strings.Repeat("\x00", api.DigestSize)}
}

// text is a word as bytes.
func (x word) text() string {
	w := pack.NewWriter()
	w.Raw(wordLetters)
	w.Num(kindWidth, x.kind)
	w.Num(numberWidth, x.number)
	w.Raw(x.root)
	return checked(w)
}

// readWord takes a word apart, if it is one. It may tell any number: which ones there are the primary knows.
func readWord(s string) (word, bool) {
	if len(s) != wordSize || !isChecked(s) {
		return word{}, false
	}
	r := pack.NewReader(s)
	letters := r.Raw(len(wordLetters))
	x := word{kind: r.Num(kindWidth), number: r.Num(numberWidth), root: r.Raw(api.DigestSize)}
	if letters != wordLetters || x.kind != something && x != wordOfNothing() {
		return word{}, false
	}
	return x, true
}
