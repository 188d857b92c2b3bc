package parity_test

import (
	"encoding/binary"
	"fmt"
	"math/rand"
	"slices"
	"strings"
	"sync"
	"testing"

	"strongbox/api"
	"strongbox/parity"
)

// What follows is a plain model of the chapter's words: polynomials as lists of coefficients, shards as the words say them. Of lost shards it solves nothing: it holds what is answered to what it must fit with.

// polynomial are the coefficients of a number's bits, that of 1 first.
func polynomial(n int) []int {
	var l []int
	for ; n > 0; n /= 2 {
		l = append(l, n%2)
	}
	return l
}

// multiplied is the product of two polynomials, over the numbers 0 and 1.
func multiplied(a, b []int) []int {
	product := make([]int, len(a)+len(b))
	for i, x := range a {
		for j, y := range b {
			product[i+j] = (product[i+j] + x*y) % 2
		}
	}
	return product
}

// remainder is what is left of a polynomial when it is divided by another one, as a number.
func remainder(a, by []int) int {
	a = slices.Clone(a)
	for top := len(a) - 1; top >= len(by)-1; top-- {
		if a[top] == 1 {
			for k := range by {
				place := top - (len(by) - 1) + k
				a[place] = (a[place] + by[k]) % 2
			}
		}
	}
	n := 0
	for k, x := range a {
		n += x << k
	}
	return n
}

// products are those of all elements. Reckoned by hand each would take too long where shards are long.
var products = sync.OnceValue(func() *[256][256]int {
	var table [256][256]int
	for a := range 256 {
		for b := range 256 {
			table[a][b] = remainder(multiplied(polynomial(a), polynomial(b)), polynomial(285))
		}
	}
	return &table
})

func wantProduct(a, b int) int { return products()[a][b] }

// wantInverse is the one element whose product with a is 1.
func wantInverse(a int) int { return slices.Index(products()[a][:], 1) }

// wantStream is the stream of a text.
func wantStream(s string, data int) string {
	stream := string(binary.BigEndian.AppendUint32(nil, uint32(len(s)))) + s
	for len(stream)%data != 0 {
		stream += "\x00"
	}
	return stream
}

// wantText is the text whose stream that is, and whether there is one.
func wantText(stream string, data int) (string, bool) {
	if len(stream) < 4 {
		return "", false
	}
	length := int64(binary.BigEndian.Uint32([]byte(stream)))
	if length > 60000 || 4+length > int64(len(stream)) {
		return "", false
	}
	s := stream[4 : 4+length]
	if wantStream(s, data) != stream {
		return "", false
	}
	return s, true
}

// pieces cuts a stream into shards of data.
func pieces(stream string, data int) []string {
	var l []string
	size := len(stream) / data
	for i := range data {
		l = append(l, stream[i*size:i*size+size])
	}
	return l
}

// withBeside are shards of data, and those beside them that fit.
func withBeside(shards []string, beside int) []string {
	all := slices.Clone(shards)
	for j := range beside {
		shard := make([]byte, len(shards[0]))
		for i, s := range shards {
			row := &products()[wantInverse((16+j)^i)]
			for k := range shard {
				shard[k] ^= byte(row[s[k]])
			}
		}
		all = append(all, string(shard))
	}
	return all
}

// wantShards are the shards of a text.
func wantShards(s string, data, beside int) []string {
	return withBeside(pieces(wantStream(s, data), data), beside)
}

func mayBe(data, beside int) bool {
	return data >= 1 && data <= 16 && beside >= 0 && beside <= 8
}

// there are the numbers of the shards that are not lost.
func there(shards []string) []int {
	var l []int
	for n, s := range shards {
		if s != "" {
			l = append(l, n)
		}
	}
	return l
}

// wantErrno is what Join, Rebuild and Wrong refuse alike.
func wantErrno(shards []string, data, beside int) api.Errno {
	if !mayBe(data, beside) || len(shards) != data+beside {
		return 180
	}
	left := there(shards)
	for _, n := range left {
		if len(shards[n]) != len(shards[left[0]]) || len(shards[n]) > 60004 {
			return 181
		}
	}
	if len(left) < data {
		return 182
	}
	return 0
}

// holds asks Join, Rebuild and Wrong about shards, and holds their answers to the words. It tells the shards that fit with the first ones, if there are any.
func holds(t *testing.T, shards []string, data, beside int) []string {
	t.Helper()
	text, joined := parity.Join(shards, data, beside)
	all, rebuilt := parity.Rebuild(shards, data, beside)
	wrong, looked := parity.Wrong(shards, data, beside)
	if want := wantErrno(shards, data, beside); want != 0 {
		if text != "" || len(all) != 0 || wrong || joined != want || rebuilt != want || looked != want {
			t.Fatalf("Y4: of %s by %d and %d: %d bytes, %d; %d shards, %d; %v, %d; want %d", brief(shards), data, beside, len(text), joined, len(all), rebuilt, wrong, looked, want)
		}
		return nil
	}
	if rebuilt != 0 || len(all) != data+beside {
		t.Fatalf("Y5: Rebuild of %s by %d and %d: %d shards, %d", brief(shards), data, beside, len(all), rebuilt)
	}
	fit := withBeside(all[:data], beside)
	isFit(t, shards, all, fit, data)
	wantWrong := slices.ContainsFunc(there(shards), func(n int) bool { return shards[n] != fit[n] })
	if wrong != wantWrong || looked != 0 {
		t.Fatalf("Y5: Wrong of %s by %d and %d: %v, %d, want %v", brief(shards), data, beside, wrong, looked, wantWrong)
	}
	want, isText := wantText(strings.Join(fit[:data], ""), data)
	if text != want || isText && joined != 0 || !isText && joined != 181 {
		t.Fatalf("Y6: Join of %s by %d and %d: %q, %d, want %q, %v", brief(shards), data, beside, text, joined, want, isText)
	}
	return fit
}

// isFit holds rebuilt shards to those that were handed in: the first ones must fit, all that were there must stay, all lost ones must be as those that fit.
func isFit(t *testing.T, shards, all, fit []string, data int) {
	t.Helper()
	left := there(shards)
	for k, n := range left {
		if all[n] != shards[n] {
			t.Fatalf("Y5: shard %d of %s was there, and is another one", n, brief(shards))
		}
		if k < data && fit[n] != shards[n] {
			t.Fatalf("Y5: shard %d of %s is one of the first ones, and does not fit", n, brief(shards))
		}
	}
	for n := range shards {
		if !slices.Contains(left, n) && all[n] != fit[n] {
			t.Fatalf("Y5: shard %d of %s was lost, and does not fit", n, brief(shards))
		}
	}
}

// brief are the lengths of shards, as they can be told in a line.
func brief(shards []string) string {
	var lengths []int
	for _, s := range shards {
		lengths = append(lengths, len(s))
	}
	return fmt.Sprint(lengths)
}

// Helpers of all tests.

// chanceText is a text of so many bytes.
func chanceText(r *rand.Rand, length int) string {
	b := make([]byte, length)
	r.Read(b)
	return string(b)
}

// with is a list with another shard of that number.
func with(shards []string, n int, s string) []string {
	l := slices.Clone(shards)
	l[n] = s
	return l
}

// without is a list with some shards lost.
func without(shards []string, lost ...int) []string {
	l := slices.Clone(shards)
	for _, n := range lost {
		l[n] = ""
	}
	return l
}

// spoilt is a text of the same length, with another byte at a place.
func spoilt(s string, place int, by byte) string {
	b := []byte(s)
	b[place] ^= by
	return string(b)
}

// choice are the shards whose bits are 0 in a number; the others are lost.
func choice(shards []string, lost int) []string {
	l := slices.Clone(shards)
	for n := range l {
		if lost>>n&1 == 1 {
			l[n] = ""
		}
	}
	return l
}
