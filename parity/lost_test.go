package parity_test

import (
	"math/rand"
	"testing"

	"strongbox/api"
)

// isWhole holds Join, Rebuild and Wrong of what is left to the text and its shards.
func isWhole(t *testing.T, left []string, data, beside int, s string, all []string) {
	t.Helper()
	joins(t, left, data, beside, s)
	rebuilds(t, left, data, beside, all)
	isWrong(t, left, data, beside, false)
}

func TestY8EachChoiceOfLostShards(t *testing.T) {
	r := rand.New(rand.NewSource(13))
	for _, c := range [][2]int{{1, 0}, {1, 1}, {1, 8}, {2, 1}, {2, 2}, {3, 0}, {3, 2}, {3, 8}, {4, 2}, {4, 4}, {5, 3}, {7, 4}, {8, 3}, {10, 0}, {9, 1}} {
		data, beside := c[0], c[1]
		s := chanceText(r, r.Intn(40))
		all := wantShards(s, data, beside)
		for lost := range 1 << (data + beside) {
			left := choice(all, lost)
			if len(there(left)) >= data {
				isWhole(t, left, data, beside, s, all)
			} else {
				refused(t, left, data, beside, api.ErrParityFew)
			}
		}
	}
}

func TestY8AllNumbersOfShards(t *testing.T) {
	r := rand.New(rand.NewSource(14))
	for data := 1; data <= 16; data++ {
		for beside := 0; beside <= 8; beside++ {
			for range 8 {
				s := chanceText(r, r.Intn(60))
				all := wantShards(s, data, beside)
				lost := r.Perm(data + beside)[:r.Intn(beside+1)]
				isWhole(t, without(all, lost...), data, beside, s, all)
			}
		}
	}
}

// The most shards there can be: each two that are lost, and many choices of eight.
func TestY8SixteenAndEight(t *testing.T) {
	r := rand.New(rand.NewSource(15))
	s := chanceText(r, 30)
	all := wantShards(s, 16, 8)
	for one := range 24 {
		for other := range one {
			isWhole(t, without(all, one, other), 16, 8, s, all)
		}
	}
	for range 1500 {
		isWhole(t, without(all, r.Perm(24)[:8]...), 16, 8, s, all)
	}
}

// An archive of 1000 bytes, and the longest text.
func TestY8LongTexts(t *testing.T) {
	r := rand.New(rand.NewSource(16))
	s := chanceText(r, 1000)
	all := wantShards(s, 4, 2)
	for one := range 6 {
		for other := range one {
			isWhole(t, without(all, one, other), 4, 2, s, all)
		}
	}
	for _, length := range []int{59999, 60000} {
		for _, c := range [][2]int{{1, 1}, {2, 2}, {5, 3}, {16, 8}} {
			s := chanceText(r, length)
			all := wantShards(s, c[0], c[1])
			isWhole(t, without(all, r.Perm(c[0] + c[1])[:c[1]]...), c[0], c[1], s, all)
		}
	}
}

// One that is left is spoilt, whichever it is: more than as many as there are of data are left, so it is known.
func TestY8OneOfThoseLeftIsAnotherText(t *testing.T) {
	r := rand.New(rand.NewSource(17))
	for _, c := range [][2]int{{1, 1}, {1, 4}, {2, 3}, {3, 3}, {4, 2}, {5, 4}} {
		data, beside := c[0], c[1]
		all := wantShards(chanceText(r, r.Intn(20)), data, beside)
		for lost := range 1 << (data + beside) {
			left := choice(all, lost)
			if len(there(left)) <= data {
				continue
			}
			for _, n := range there(left) {
				bad := with(left, n, spoilt(left[n], r.Intn(len(left[n])), byte(1+r.Intn(255))))
				isWrong(t, bad, data, beside, true)
				holds(t, bad, data, beside)
			}
		}
	}
}

// Another text may be another one in all its bytes, or in one bit.
func TestY8AnyOtherText(t *testing.T) {
	r := rand.New(rand.NewSource(18))
	for range 1500 {
		data, beside := 1+r.Intn(16), 1+r.Intn(8)
		all := wantShards(chanceText(r, r.Intn(80)), data, beside)
		lost := r.Perm(data + beside)[:r.Intn(beside)]
		left := without(all, lost...)
		n := there(left)[r.Intn(len(there(left)))]
		other := chanceText(r, len(left[n]))
		if r.Intn(2) == 0 {
			other = spoilt(left[n], r.Intn(len(left[n])), 1<<r.Intn(8))
		}
		isWrong(t, with(left, n, other), data, beside, other != left[n])
	}
}
