package proof_test

import (
	"math"
	"math/rand"
	"slices"
	"strings"
	"testing"

	"strongbox/api"
	"strongbox/hash"
	"strongbox/proof"
)

// placesAre holds PlacesOf to an answer.
func placesAre(t *testing.T, draw, digest string, want []int, wantErrno api.Errno) {
	t.Helper()
	if l, errno := proof.PlacesOf(draw, digest); !slices.Equal(l, want) || errno != wantErrno {
		t.Errorf("PlacesOf(%q, %q) = %v, %d, want %v, %d", draw, digest, l, errno, want, wantErrno)
	}
}

// Numbers that were made by another program.
func TestO1PlacesWrittenOut(t *testing.T) {
	rise := count()
	for _, c := range []struct {
		draw, digest string
		want         []int
	}{
		{strings.Repeat("d", 16), hash.Sum("chunk"), []int{9, 25, 35, 80, 140, 224, 225, 250}},
		{strings.Repeat("\x00", 16), strings.Repeat("\x00", 32), []int{9, 90, 117, 133, 146, 152, 169, 231}},
		{strings.Repeat("\xff", 16), strings.Repeat("\xff", 32), []int{58, 65, 85, 193, 214, 216, 231, 241}},
		{rise[:16], rise[:32], []int{79, 109, 120, 126, 171, 189, 208, 231}},
		// The bytes are 214, 180, 53, 214, 180, 144, 175, 50, 110, 75, 55 and so on.
		{strings.Repeat("\x00", 15) + "\xba", strings.Repeat("\x00", 32), []int{50, 53, 75, 110, 144, 175, 180, 214}},
		// The bytes are 244, 14, 146, 230, 146, 129, 14, 26, 32, 95, 136 and so on.
		{strings.Repeat("\x00", 15) + "\xd3", strings.Repeat("\x00", 32), []int{14, 26, 32, 95, 129, 146, 230, 244}},
	} {
		placesAre(t, c.draw, c.digest, c.want, api.OK)
	}
}

func TestO1PlacesOfManyDrawsAndDigests(t *testing.T) {
	doubled := 0
	for k := range 3000 {
		draw, digest := drawOf(k), digestOf(k/3)
		placesAre(t, draw, digest, wantPlaces(draw, digest), api.OK)
		derived, _ := hash.Derive(draw, "places"+digest, 8)
		if len(firstEight([]byte(derived))) < 8 {
			doubled++
		}
	}
	if doubled < 100 {
		t.Errorf("only %d of the cases have a double among their first bytes", doubled)
	}
}

func TestO1PlacesAreEightAndRise(t *testing.T) {
	var came [256]bool
	for k := range 2000 {
		l, errno := proof.PlacesOf(drawOf(-k), digestOf(k))
		if len(l) != 8 || errno != api.OK || l[0] < 0 || l[7] > 255 {
			t.Fatalf("%d: %v, %d", k, l, errno)
		}
		for i, n := range l {
			if i > 0 && n <= l[i-1] {
				t.Fatalf("%d: %v does not rise", k, l)
			}
			came[n] = true
		}
	}
	if slices.Contains(came[:], false) {
		t.Error("a place never came")
	}
}

func TestO1LengthsOfDrawsAndDigests(t *testing.T) {
	long := strings.Repeat("x", 5000)
	for _, draw := range []int{0, 1, 8, 15, 16, 17, 32, 48, 5000} {
		for _, digest := range []int{0, 1, 16, 31, 32, 33, 64, 5000} {
			var want []int
			errno := api.OK
			switch {
			case draw != 16:
				errno = api.ErrProofDraw
			case digest != 32:
				errno = api.ErrArg
			default:
				want = wantPlaces(long[:16], long[:32])
			}
			placesAre(t, long[:draw], long[:digest], want, errno)
		}
	}
}

// Every bit of a draw and of a digest counts.
func TestO1PlacesHangOnEveryBit(t *testing.T) {
	draw, digest := drawOf(1), digestOf(1)
	was := wantPlaces(draw, digest)
	for bit := range 48 * 8 {
		b := []byte(draw + digest)
		b[bit/8] ^= 1 << (bit % 8)
		l, errno := proof.PlacesOf(string(b[:16]), string(b[16:]))
		if slices.Equal(l, was) || errno != api.OK {
			t.Errorf("with bit %d turned: %v, %d", bit, l, errno)
		}
	}
}

// sampleIs holds SampleOf to an answer.
func sampleIs(t *testing.T, cipher string, places []int, want string, wantErrno api.Errno) {
	t.Helper()
	if s, errno := proof.SampleOf(cipher, places); s != want || errno != wantErrno {
		t.Errorf("SampleOf of %d bytes at %v = %q, %d, want %q, %d", len(cipher), places, s, errno, want, wantErrno)
	}
}

func TestO2SamplesWrittenOut(t *testing.T) {
	rise := count()
	for _, c := range []struct {
		places []int
		want   string
	}{
		{nil, ""},
		{[]int{}, ""},
		{[]int{0}, "\x00"},
		{[]int{255}, "\xff"},
		{[]int{97}, "a"},
		{[]int{3, 3, 255}, "\x03\x03\xff"},
		{[]int{0, 255}, "\x00\xff"},
		{[]int{255, 0}, "\xff\x00"},
		{[]int{255, 255, 255}, "\xff\xff\xff"},
		{[]int{200, 97, 128, 97}, "\xc8a\x80a"},
		{[]int{1, 2, 3, 4, 5, 6, 7, 8}, "\x01\x02\x03\x04\x05\x06\x07\x08"},
		{[]int{8, 7, 6, 5, 4, 3, 2, 1, 0}, "\x08\x07\x06\x05\x04\x03\x02\x01\x00"},
	} {
		sampleIs(t, rise, c.places, c.want, api.OK)
	}
}

func TestO2ManyPlaces(t *testing.T) {
	r := rand.New(rand.NewSource(2))
	cipher := chunkBy(r)
	for _, n := range []int{1, 7, 8, 9, 255, 256, 257, 100000} {
		places := make([]int, n)
		for k := range places {
			places[k] = r.Intn(256)
		}
		want, _ := wantSample(cipher, places)
		sampleIs(t, cipher, places, want, api.OK)
	}
	all := make([]int, 256)
	for k := range all {
		all[k] = k
	}
	sampleIs(t, cipher, all, cipher, api.OK)
}

func TestO2LengthsOfChunks(t *testing.T) {
	long := strings.Repeat("x", 5000)
	for _, n := range []int{0, 1, 8, 255, 256, 257, 512, 5000} {
		for _, places := range [][]int{nil, {0}, {0, 0}, {255}, {256}, {-1}, {n}, {n - 1}} {
			want, errno := wantSample(long[:n], places)
			sampleIs(t, long[:n], places, want, errno)
			if n != 256 && errno != api.ErrProofSample {
				t.Errorf("the model takes %d bytes", n)
			}
		}
	}
}

// A place that may not be, alone, first, in the midst and last.
func TestO2PlacesThatMayNotBe(t *testing.T) {
	rise := count()
	for _, n := range []int{math.MinInt, -4294967296, -256, -2, -1, 256, 257, 511, 512, 65536, 4294967296, 4294967297, math.MaxInt} {
		for _, places := range [][]int{{n}, {n, 1, 2}, {1, n, 2}, {1, 2, n}, {n, n}, {1, 2, 3, 4, 5, 6, 7, n}} {
			sampleIs(t, rise, places, "", api.ErrProofSample)
			sampleIs(t, rise[1:], places, "", api.ErrProofSample)
		}
	}
}
