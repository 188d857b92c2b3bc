package link

import (
	"strongbox/api"
	"strongbox/hash"
	"strongbox/pack"
	"strongbox/seal"
)

// What the derived keys are for, what a frame begins with, the bytes of its number, and those of one whose message is empty.
const (
	keysInfo     = "link"
	frameLetters = "LM"
	numberSize   = 8
	frameSize    = len(frameLetters) + numberSize + tagSize
)

// keys are those by which one side sends, and the other one takes.
type keys struct {
	hiding, sealing string
}

// keysOf are the keys of what a side sends, by the nonces of both.
func keysOf(key string, nonces [sides]string, side int) keys {
	derived, _ := hash.Derive(key, keysInfo+nonces[0]+nonces[1]+sideText(side), 2*api.KeySize)
	return keys{derived[:api.KeySize], derived[api.KeySize:]}
}

// areThere tells whether there are keys: from Greet to Close.
func (k keys) areThere() bool { return k != keys{} }

// frame is a message with a number as a frame.
func (k keys) frame(number int, message string) string {
	return tagged(k.sealing, frameLetters+numberText(number)+k.turned(number, message))
}

// read is the number and the message of a frame, if it is one by these keys.
func (k keys) read(frame string) (int, string, bool) {
	if len(frame) < frameSize || len(frame) > frameSize+api.MaxMessage {
		return 0, "", false
	}
	sealed := frame[:len(frame)-tagSize]
	if !hash.Same(tagged(k.sealing, sealed), frame) {
		return 0, "", false
	}
	r := pack.NewReader(sealed)
	letters, number, hidden := r.Raw(len(frameLetters)), r.Num(numberSize), r.Raw(len(frame)-frameSize)
	// Who has the key may seal what is no frame: other letters, or a number that is too great for the Reader.
	if errno, _ := r.Done(); errno != api.OK || letters != frameLetters {
		return 0, "", false
	}
	return number, k.turned(number, hidden), true
}

// turned is a message of a number hidden, or a hidden one shown: laying on twice gives back what was there.
func (k keys) turned(number int, s string) string {
	laid, _ := seal.Xor(hash.Mac(k.hiding, numberText(number)), 0, s)
	return laid
}

// numberText is a number, which is not below 0, as bytes.
func numberText(number int) string {
	w := pack.NewWriter()
	w.Num(numberSize, number)
	s, _ := w.Done()
	return s
}
