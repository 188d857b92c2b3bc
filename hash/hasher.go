package hash

import "strongbox/api"

// Sizes in bytes: of the pieces a text is gone through in, of the length that ends a filled text, of a word.
const (
	pieceSize  = 64
	lengthSize = 8
	wordSize   = 4
)

// Hasher takes a text in parts.
type Hasher struct {
	words [8]uint32
	// Of the piece only the first taken % pieceSize bytes count; behind them lies what earlier pieces left.
	piece [pieceSize]byte
	taken int
}

// New makes one.
func New() *Hasher {
	return &Hasher{words: [8]uint32{
		0x6a09e667, 0xbb67ae85, 0x3c6ef372, 0xa54ff53a,
		0x510e527f, 0x9b05688c, 0x1f83d9ab, 0x5be0cd19,
	}}
}

// Write takes the next part.
func (h *Hasher) Write(s string) {
	if h == nil {
		return
	}
	for len(s) > 0 {
		held := h.taken % pieceSize
		n := copy(h.piece[held:], s)
		h.taken += n
		s = s[n:]
		if held+n == pieceSize {
			h.words = mixed(h.words, h.piece)
		}
	}
}

// Len tells how many bytes it has taken.
func (h *Hasher) Len() int {
	if h == nil {
		return 0
	}
	return h.taken
}

// Sum is the SHA-256 of all that it has taken; it goes on behind it.
func (h *Hasher) Sum() string {
	if h == nil {
		return New().Sum()
	}
	return digest(filledUp(*h))
}

// Clone makes another one that has taken the same, and goes on by itself.
func (h *Hasher) Clone() *Hasher {
	if h == nil {
		return nil
	}
	c := *h
	return &c
}

// filledUp is the eight words behind the filled up text. It works on a copy of the Hasher, which may so go on.
func filledUp(h Hasher) [8]uint32 {
	held := h.taken % pieceSize
	h.piece[held] = 128
	clear(h.piece[held+1:])
	if held+1 > pieceSize-lengthSize {
		h.words = mixed(h.words, h.piece)
		h.piece = [pieceSize]byte{}
	}
	bits := 8 * uint64(h.taken)
	for i := range lengthSize {
		h.piece[pieceSize-1-i] = byte(bits >> (8 * i))
	}
	return mixed(h.words, h.piece)
}

// digest lays the words out one behind the other.
func digest(words [8]uint32) string {
	var laid [api.DigestSize]byte
	for i, w := range words {
		for k := range wordSize {
			laid[wordSize*i+k] = byte(w >> (24 - 8*k))
		}
	}
	return string(laid[:])
}
