package parity_test

import (
	"math"
	"math/rand"
	"slices"
	"strings"
	"testing"

	"strongbox/api"
	"strongbox/parity"
)

// refused holds Join, Rebuild and Wrong to an error.
func refused(t *testing.T, shards []string, data, beside int, want api.Errno) {
	t.Helper()
	s, joined := parity.Join(shards, data, beside)
	all, rebuilt := parity.Rebuild(shards, data, beside)
	wrong, looked := parity.Wrong(shards, data, beside)
	if s != "" || joined != want {
		t.Errorf("Join of %s by %d and %d: %q, %d, want %d", brief(shards), data, beside, s, joined, want)
	}
	if len(all) != 0 || rebuilt != want {
		t.Errorf("Rebuild of %s by %d and %d: %q, %d, want %d", brief(shards), data, beside, all, rebuilt, want)
	}
	if wrong || looked != want {
		t.Errorf("Wrong of %s by %d and %d: %v, %d, want %d", brief(shards), data, beside, wrong, looked, want)
	}
}

// joins holds Join to a text.
func joins(t *testing.T, shards []string, data, beside int, want string) {
	t.Helper()
	if s, errno := parity.Join(shards, data, beside); s != want || errno != api.OK {
		t.Errorf("Join of %s by %d and %d: %d bytes, %d, want %d", brief(shards), data, beside, len(s), errno, len(want))
	}
}

// joinsNot holds Join to telling that the shards are of no text.
func joinsNot(t *testing.T, shards []string, data, beside int) {
	t.Helper()
	if s, errno := parity.Join(shards, data, beside); s != "" || errno != api.ErrParityForm {
		t.Errorf("Join of %s by %d and %d: %q, %d, want an error of the form", brief(shards), data, beside, s, errno)
	}
}

func TestY4Examples(t *testing.T) {
	for n := range 5 {
		five := []string{"\x00", "\x00", "\x00", "\x00", "\x00"}
		refused(t, without(five, n), 5, 0, api.ErrParityFew)
	}
}

func TestY4CountsThatMayNotBe(t *testing.T) {
	for _, data := range []int{math.MinInt, -1, 0, 1, 2, 15, 16, 17, 1 << 32, math.MaxInt} {
		for _, beside := range []int{math.MinInt, -1, 0, 1, 7, 8, 9, 1 << 32, math.MaxInt} {
			// The sum of wrong numbers may be a right length, and may wrap round.
			for length := range 27 {
				lost, same, unlike := make([]string, length), slices.Repeat([]string{"abcd"}, length), slices.Repeat([]string{"abcd", "abc"}, length)[:length]
				if mayBe(data, beside) && length == data+beside {
					refused(t, lost, data, beside, api.ErrParityFew)
					holds(t, same, data, beside)
					continue
				}
				refused(t, lost, data, beside, api.ErrParityCount)
				refused(t, same, data, beside, api.ErrParityCount)
				refused(t, unlike, data, beside, api.ErrParityCount)
			}
		}
	}
}

func TestY4TextsTooFewAndTooMany(t *testing.T) {
	for _, c := range [][2]int{{1, 0}, {1, 1}, {3, 2}, {16, 0}, {16, 8}} {
		data, beside := c[0], c[1]
		all := wantShards("some text", data, beside)
		refused(t, nil, data, beside, api.ErrParityCount)
		refused(t, []string{}, data, beside, api.ErrParityCount)
		refused(t, all[:len(all)-1], data, beside, api.ErrParityCount)
		refused(t, append(slices.Clone(all), all[0]), data, beside, api.ErrParityCount)
		refused(t, append(slices.Clone(all), ""), data, beside, api.ErrParityCount)
		holds(t, all, data, beside)
	}
}

func TestY4UnlikeLengths(t *testing.T) {
	for _, c := range [][2]int{{1, 1}, {2, 0}, {3, 2}, {16, 8}} {
		data, beside := c[0], c[1]
		all := wantShards("some text that is longer", data, beside)
		for n := range all {
			refused(t, with(all, n, all[n]+"x"), data, beside, api.ErrParityForm)
			refused(t, with(all, n, all[n]+"\x00"), data, beside, api.ErrParityForm)
			if len(all[n]) > 1 {
				refused(t, with(all, n, all[n][1:]), data, beside, api.ErrParityForm)
			}
		}
	}
}

// Unlike lengths are told also where too many are lost; one that is alone has nobody to be unlike.
func TestY4UnlikeLengthsAheadOfTooFew(t *testing.T) {
	for _, c := range [][2]int{{3, 2}, {16, 8}} {
		data, beside := c[0], c[1]
		for one := range data + beside {
			for other := range data + beside {
				l := make([]string, data+beside)
				l[one] = "ab"
				refused(t, l, data, beside, api.ErrParityFew)
				if other == one {
					continue
				}
				l[other] = "cd"
				refused(t, l, data, beside, api.ErrParityFew)
				l[other] = "abc"
				refused(t, l, data, beside, api.ErrParityForm)
				l[other] = "a"
				refused(t, l, data, beside, api.ErrParityForm)
			}
		}
	}
}

func TestY4LongTexts(t *testing.T) {
	most, more := strings.Repeat("\x00", 60004), strings.Repeat("\x00", 60005)
	for _, c := range [][2]int{{1, 0}, {1, 1}, {2, 0}, {2, 2}, {16, 8}} {
		data, beside := c[0], c[1]
		n := data + beside
		refused(t, slices.Repeat([]string{more}, n), data, beside, api.ErrParityForm)
		refused(t, with(slices.Repeat([]string{most}, n+1), n, more)[1:], data, beside, api.ErrParityForm)
		refused(t, append(make([]string, n-1), more), data, beside, api.ErrParityForm)
		holds(t, slices.Repeat([]string{most}, n), data, beside)
		if data > 1 {
			refused(t, append(make([]string, n-1), most), data, beside, api.ErrParityFew)
		}
	}
	s := chanceText(rand.New(rand.NewSource(8)), 60000)
	joins(t, wantShards(s, 1, 0), 1, 0, s)
}

func TestY4AsManyAsThereAreOfDataAndOneFewer(t *testing.T) {
	r := rand.New(rand.NewSource(9))
	for data := 1; data <= 16; data++ {
		for beside := 0; beside <= 8; beside++ {
			all := wantShards(chanceText(r, 50), data, beside)
			for range 3 {
				lost := r.Perm(data + beside)
				holds(t, without(all, lost[:beside]...), data, beside)
				refused(t, without(all, lost[:beside+1]...), data, beside, api.ErrParityFew)
			}
			refused(t, make([]string, data+beside), data, beside, api.ErrParityFew)
		}
	}
}
