package seal_test

import (
	"crypto/sha256"
	"encoding/binary"
	"math"
	"strings"
	"sync"
	"testing"

	"strongbox/api"
	"strongbox/hash"
	"strongbox/seal"
)

const streamSize = 65536

// text is n bytes that hang on a seed, so that no two seeds give the same ones.
func text(n int, seed byte) string {
	b := make([]byte, n)
	for i := range b {
		b[i] = byte(i*i/7+31*i+i/64) ^ seed
	}
	return string(b)
}

// aKey is one with all kinds of bytes in it.
func aKey(seed byte) string { return text(api.KeySize, seed) }

// notKeys have another length than a key, the nearest ones first.
func notKeys() []string {
	return []string{text(31, 1), text(33, 1), "", "k", text(16, 1), text(64, 1), text(256, 1)}
}

// turned is a text with one bit turned.
func turned(s string, bit int) string {
	b := []byte(s)
	b[bit/8] ^= 1 << (bit % 8)
	return string(b)
}

// wantStream is a key's whole stream, by the library's own SHA-256.
func wantStream(key string) string {
	var all strings.Builder
	for i := uint64(0); all.Len() < streamSize; i++ {
		d := sha256.Sum256(binary.BigEndian.AppendUint64([]byte(key), i))
		all.Write(d[:])
	}
	return all.String()
}

// wantXor lays two texts of one length on each other.
func wantXor(a, b string) string {
	x := []byte(a)
	for i := range x {
		x[i] ^= b[i]
	}
	return string(x)
}

// partsWithin lie in a stream: at its front, at its end, and across the edges of Sums.
func partsWithin() [][2]int {
	parts := [][2]int{
		{0, streamSize}, {0, streamSize - 1}, {1, streamSize - 1}, {1, streamSize - 2},
		{streamSize, 0}, {streamSize - 1, 0}, {streamSize - 1, 1}, {streamSize - 2, 1}, {streamSize - 2, 2},
		{streamSize - 32, 32}, {streamSize - 33, 33}, {streamSize - 31, 31}, {streamSize - 1000, 1000},
		{8191, 3}, {8192, 1}, {8160, 64}, {40000, 333}, // the Sum 256 is the first whose number needs a second byte
	}
	for from := range 70 {
		for n := range 100 {
			parts = append(parts, [2]int{from, n})
		}
	}
	return parts
}

// partsOutside do not lie in a stream, some of them so far that from + n wraps round.
func partsOutside() [][2]int {
	return [][2]int{
		{-1, 0}, {-1, 1}, {-1, 2}, {-32, 32}, {0, -1}, {1, -1}, {32, -32}, {streamSize, -1}, {streamSize + 1, -1}, {-1, -1},
		{streamSize + 1, 0}, {streamSize, 1}, {streamSize - 1, 2}, {streamSize - 32, 33}, {1, streamSize}, {0, streamSize + 1},
		{math.MaxInt, 0}, {math.MaxInt, 1}, {math.MaxInt, math.MaxInt}, {0, math.MaxInt}, {1, math.MaxInt}, {streamSize, math.MaxInt},
		{math.MinInt, 0}, {math.MinInt, 1}, {0, math.MinInt}, {1, math.MinInt}, {math.MinInt, math.MinInt},
		{math.MinInt, math.MaxInt}, {math.MaxInt, math.MinInt}, {math.MaxInt - streamSize + 1, streamSize}, {1 << 32, 1}, {1, 1 << 32},
	}
}

func TestS1StreamOfTheExamples(t *testing.T) {
	noughts := strings.Repeat("\x00", 39)
	zero := noughts[:32]
	if got, e := seal.Stream(zero, 0, 32); got != hash.Sum(noughts+"\x00") || e != api.OK {
		t.Errorf("the stream of 32 noughts begins with %x, %d", got, e)
	}
	if got, e := seal.Stream(zero, 32, 1); got != hash.Sum(noughts + "\x01")[:1] || e != api.OK {
		t.Errorf("its byte 32 is %x, %d", got, e)
	}
	if got, e := seal.Stream(zero, 65536, 0); got != "" || e != api.OK {
		t.Errorf("Stream(key, 65536, 0) = %x, %d", got, e)
	}
	for _, c := range [][2]int{{65535, 2}, {9223372036854775807, 1}} {
		if got, e := seal.Stream(zero, c[0], c[1]); got != "" || e != api.ErrSealRange {
			t.Errorf("Stream(key, %d, %d) = %x, %d", c[0], c[1], got, e)
		}
	}
}

func TestS1StreamOfEachPart(t *testing.T) {
	key := aKey(3)
	whole := wantStream(key)
	for _, c := range partsWithin() {
		if got, e := seal.Stream(key, c[0], c[1]); got != whole[c[0]:c[0]+c[1]] || e != api.OK {
			t.Errorf("Stream(key, %d, %d) = %d bytes, error %d; they are the wrong ones", c[0], c[1], len(got), e)
		}
	}
}

func TestS1StreamOfEachKey(t *testing.T) {
	for _, key := range []string{strings.Repeat("\x00", 32), strings.Repeat("\xff", 32), aKey(0), aKey(1), turned(aKey(1), 0), turned(aKey(1), 255)} {
		if got, e := seal.Stream(key, 0, streamSize); got != wantStream(key) || e != api.OK {
			t.Errorf("the stream of %x: %d bytes, error %d; they are the wrong ones", key, len(got), e)
		}
	}
}

func TestS1StreamRefusesParts(t *testing.T) {
	for _, c := range partsOutside() {
		if got, e := seal.Stream(aKey(3), c[0], c[1]); got != "" || e != api.ErrSealRange {
			t.Errorf("Stream(key, %d, %d) = %d bytes, error %d, want error %d", c[0], c[1], len(got), e, api.ErrSealRange)
		}
	}
}

func TestS1StreamRefusesKeysFirst(t *testing.T) {
	for _, key := range notKeys() {
		for _, c := range append(partsOutside(), [2]int{0, 0}, [2]int{0, 1}, [2]int{streamSize, 0}) {
			if got, e := seal.Stream(key, c[0], c[1]); got != "" || e != api.ErrSealKey {
				t.Errorf("Stream(%d bytes, %d, %d) = %d bytes, error %d, want error %d", len(key), c[0], c[1], len(got), e, api.ErrSealKey)
			}
		}
	}
}

func TestS2XorOfEachPart(t *testing.T) {
	key := aKey(7)
	whole := wantStream(key)
	for _, c := range partsWithin() {
		s := text(c[1], 9)
		want := wantXor(s, whole[c[0]:c[0]+c[1]])
		if got, e := seal.Xor(key, c[0], s); got != want || e != api.OK {
			t.Errorf("Xor(key, %d, %d bytes) = %d bytes, error %d; they are the wrong ones", c[0], c[1], len(got), e)
		}
	}
}

func TestS2XorOfNoughtsIsTheStream(t *testing.T) {
	key := aKey(7)
	if got, e := seal.Xor(key, 0, strings.Repeat("\x00", streamSize)); got != wantStream(key) || e != api.OK {
		t.Errorf("Xor of noughts: %d bytes, error %d; they are the wrong ones", len(got), e)
	}
}

func TestS2XorRefusesParts(t *testing.T) {
	for _, c := range []struct{ from, n int }{
		{-1, 0}, {-1, 1}, {-32, 64}, {math.MinInt, 0}, {math.MinInt, 1},
		{streamSize + 1, 0}, {streamSize, 1}, {streamSize - 1, 2}, {streamSize - 31, 32}, {1, streamSize}, {0, streamSize + 1}, {0, 1 << 20},
		{math.MaxInt, 0}, {math.MaxInt, 1}, {math.MaxInt, streamSize}, {math.MaxInt - 9, 10},
	} {
		if got, e := seal.Xor(aKey(7), c.from, text(c.n, 0)); got != "" || e != api.ErrSealRange {
			t.Errorf("Xor(key, %d, %d bytes) = %d bytes, error %d, want error %d", c.from, c.n, len(got), e, api.ErrSealRange)
		}
	}
}

func TestS2XorRefusesKeysFirst(t *testing.T) {
	for _, key := range notKeys() {
		for _, c := range []struct{ from, n int }{{0, 0}, {0, 1}, {-1, 1}, {streamSize, 1}, {math.MaxInt, 1}, {0, streamSize + 1}} {
			if got, e := seal.Xor(key, c.from, text(c.n, 0)); got != "" || e != api.ErrSealKey {
				t.Errorf("Xor(%d bytes, %d, %d bytes) = %d bytes, error %d, want error %d", len(key), c.from, c.n, len(got), e, api.ErrSealKey)
			}
		}
	}
}

func TestS9LayingOnTwiceGivesBackWhatWasThere(t *testing.T) {
	key := aKey(5)
	for _, c := range []struct {
		from int
		s    string
	}{{10, "abc"}, {0, ""}, {streamSize, ""}, {0, text(streamSize, 2)}, {31, text(2, 2)}, {65535, "\xff"}, {500, text(999, 4)}} {
		once, e := seal.Xor(key, c.from, c.s)
		if e != api.OK {
			t.Errorf("Xor(key, %d, %d bytes): error %d", c.from, len(c.s), e)
		}
		if twice, e := seal.Xor(key, c.from, once); twice != c.s || e != api.OK {
			t.Errorf("Xor twice (key, %d, %d bytes) is not what was there: error %d", c.from, len(c.s), e)
		}
	}
}

func TestS9PartsOfAStreamAreTheWhole(t *testing.T) {
	key := aKey(6)
	whole, e := seal.Stream(key, 0, streamSize)
	if e != api.OK || len(whole) != streamSize {
		t.Fatalf("the whole stream: %d bytes, error %d", len(whole), e)
	}
	for _, step := range []int{17, 31, 32, 33, 64, 1000, 65535} {
		var all strings.Builder
		for from := 0; from < streamSize; from += step {
			s, e := seal.Stream(key, from, min(step, streamSize-from))
			if e != api.OK {
				t.Fatalf("Stream from %d: error %d", from, e)
			}
			all.WriteString(s)
		}
		if all.String() != whole {
			t.Errorf("parts of %d bytes are not the whole stream", step)
		}
	}
}

// Calls of other keys, and calls at the same time, leave no trace in an answer.
func TestS9AnswersHangOnTheArgumentsAlone(t *testing.T) {
	var all sync.WaitGroup
	for seed := range byte(8) {
		all.Add(1)
		go func() {
			defer all.Done()
			want := wantStream(aKey(seed))
			for from := 0; from < 640; from += 13 {
				if got, e := seal.Stream(aKey(seed), from, 77); got != want[from:from+77] || e != api.OK {
					t.Errorf("Stream(key %d, %d, 77): error %d, or the wrong bytes", seed, from, e)
				}
			}
		}()
	}
	all.Wait()
}
