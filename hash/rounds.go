package hash

// roundWords: the first 32 bits behind the point of the cube roots of the first 64 primes.
var roundWords = [64]uint32{
	0x428a2f98, 0x71374491, 0xb5c0fbcf, 0xe9b5dba5, 0x3956c25b, 0x59f111f1, 0x923f82a4, 0xab1c5ed5,
	0xd807aa98, 0x12835b01, 0x243185be, 0x550c7dc3, 0x72be5d74, 0x80deb1fe, 0x9bdc06a7, 0xc19bf174,
	0xe49b69c1, 0xefbe4786, 0x0fc19dc6, 0x240ca1cc, 0x2de92c6f, 0x4a7484aa, 0x5cb0a9dc, 0x76f988da,
	0x983e5152, 0xa831c66d, 0xb00327c8, 0xbf597fc7, 0xc6e00bf3, 0xd5a79147, 0x06ca6351, 0x14292967,
	0x27b70a85, 0x2e1b2138, 0x4d2c6dfc, 0x53380d13, 0x650a7354, 0x766a0abb, 0x81c2c92e, 0x92722c85,
	0xa2bfe8a1, 0xa81a664b, 0xc24b8b70, 0xc76c51a3, 0xd192e819, 0xd6990624, 0xf40e3585, 0x106aa070,
	0x19a4c116, 0x1e376c08, 0x2748774c, 0x34b0bcb5, 0x391c0cb3, 0x4ed8aa4a, 0x5b9cca4f, 0x682e6ff3,
	0x748f82ee, 0x78a5636f, 0x84c87814, 0x8cc70208, 0x90befffa, 0xa4506ceb, 0xbef9a3f7, 0xc67178f2,
}

// mixed is what one piece makes of the eight words.
func mixed(words [8]uint32, piece [pieceSize]byte) [8]uint32 {
	spread := spreadOut(piece)
	a, b, c, d := words[0], words[1], words[2], words[3]
	e, f, g, h := words[4], words[5], words[6], words[7]
	for t := range spread {
		t1 := h + (turned(e, 6) ^ turned(e, 11) ^ turned(e, 25)) + ((e & f) ^ (^e & g)) + roundWords[t] + spread[t]
		t2 := (turned(a, 2) ^ turned(a, 13) ^ turned(a, 22)) + ((a & b) ^ (a & c) ^ (b & c))
		h, g, f, e, d, c, b, a = g, f, e, d+t1, c, b, a, t1+t2
	}
	letters := [8]uint32{a, b, c, d, e, f, g, h}
	for i := range words {
		words[i] += letters[i]
	}
	return words
}

// spreadOut makes a word for each round of the sixteen words of a piece.
func spreadOut(piece [pieceSize]byte) [64]uint32 {
	var w [64]uint32
	for t := range pieceSize / wordSize {
		for k := range wordSize {
			w[t] = w[t]<<8 | uint32(piece[wordSize*t+k])
		}
	}
	for t := pieceSize / wordSize; t < len(w); t++ {
		x, y := w[t-2], w[t-15]
		fromX := turned(x, 17) ^ turned(x, 19) ^ (x >> 10)
		fromY := turned(y, 7) ^ turned(y, 18) ^ (y >> 3)
		w[t] = fromX + w[t-7] + fromY + w[t-16]
	}
	return w
}

// turned is x turned right by n bits, n from 1 to 31.
func turned(x uint32, n uint) uint32 {
	return x>>n | x<<(32-n)
}
