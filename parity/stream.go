package parity

import (
	"strings"

	"strongbox/api"
)

// lengthSize is how many bytes the length of a text takes, at the front of its stream.
const lengthSize = 4

// streamSize is how many bytes the stream of a text of that length has.
func streamSize(length, data int) int {
	return (lengthSize + length + data - 1) / data * data
}

// streamOf is the stream of a text.
func streamOf(s string, data int) string {
	stream := make([]byte, streamSize(len(s), data))
	for k := range lengthSize {
		stream[k] = byte(len(s) >> (8 * (lengthSize - 1 - k)))
	}
	copy(stream[lengthSize:], s)
	return string(stream)
}

// cut is a stream in as many pieces as there are shards of data.
func cut(stream string, data int) []string {
	size := len(stream) / data
	var pieces []string
	for i := range data {
		pieces = append(pieces, stream[i*size:(i+1)*size])
	}
	return pieces
}

// textOf is the text whose stream that is, if there is one.
func textOf(stream string, data int) (string, bool) {
	if len(stream) < lengthSize {
		return "", false
	}
	var told uint32 // an int may have no room for all that four bytes can tell
	for k := range lengthSize {
		told = told<<8 | uint32(stream[k])
	}
	if told > api.MaxSplit {
		return "", false
	}
	length := int(told)
	if len(stream) != streamSize(length, data) {
		return "", false
	}
	text, behind := stream[lengthSize:lengthSize+length], stream[lengthSize+length:]
	if strings.Trim(behind, "\x00") != "" {
		return "", false
	}
	return text, true
}
