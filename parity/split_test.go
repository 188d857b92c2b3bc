package parity_test

import (
	"math"
	"math/rand"
	"slices"
	"strings"
	"testing"

	"strongbox/api"
	"strongbox/parity"
)

// splits holds Split to the shards of a text.
func splits(t *testing.T, s string, data, beside int) {
	t.Helper()
	l, errno := parity.Split(s, data, beside)
	if want := wantShards(s, data, beside); !slices.Equal(l, want) || errno != api.OK {
		t.Fatalf("Split of %d bytes by %d and %d: %s, %d, want %s", len(s), data, beside, brief(l), errno, brief(want))
	}
}

func TestY3Examples(t *testing.T) {
	l, errno := parity.Split("a", 2, 1)
	over17 := wantInverse(17)
	want := []string{"\x00\x00\x00", "\x01a\x00", string([]byte{byte(over17), byte(wantProduct(97, over17)), 0})}
	if !slices.Equal(l, want) || errno != api.OK {
		t.Errorf("Split(a, 2, 1) = %q, %d, want %q", l, errno, want)
	}
	l, errno = parity.Split("", 5, 0)
	if !slices.Equal(l, []string{"\x00", "\x00", "\x00", "\x00", "\x00"}) || errno != api.OK {
		t.Errorf("Split of nothing by 5 and 0 = %q, %d", l, errno)
	}
}

func TestY3ShortTextsInAllNumbersOfShards(t *testing.T) {
	r := rand.New(rand.NewSource(5))
	for data := 1; data <= 16; data++ {
		for beside := 0; beside <= 8; beside++ {
			for length := 0; length <= 40; length++ {
				splits(t, chanceText(r, length), data, beside)
			}
		}
	}
}

// What is laid behind the text is none, one byte, or as many as can be.
func TestY3StreamsThatAreFilledUp(t *testing.T) {
	r := rand.New(rand.NewSource(6))
	for data := 1; data <= 16; data++ {
		for _, filled := range []int{0, 1 % data, data - 1} {
			for _, rows := range []int{20, 21, 257} {
				length := rows*data - 4 - filled
				s := chanceText(r, length-1) + "\xff"
				if len(wantStream(s, data)) != 4+length+filled {
					t.Fatalf("that is not filled up by %d", filled)
				}
				splits(t, s, data, 3)
				splits(t, strings.Repeat("\x00", length), data, 3)
			}
		}
	}
}

func TestY3LongTexts(t *testing.T) {
	r := rand.New(rand.NewSource(7))
	for _, length := range []int{255, 256, 65535 / 2, 59999, 60000} {
		s := chanceText(r, length)
		for _, c := range [][2]int{{1, 0}, {1, 8}, {2, 1}, {3, 2}, {7, 8}, {15, 3}, {16, 0}, {16, 8}} {
			splits(t, s, c[0], c[1])
		}
	}
}

func TestY3WhatIsRefused(t *testing.T) {
	for _, data := range []int{math.MinInt, -16, -1, 0, 1, 2, 15, 16, 17, 24, 1 << 32, 1<<32 + 1, math.MaxInt} {
		for _, beside := range []int{math.MinInt, -1, 0, 1, 7, 8, 9, 1 << 32, math.MaxInt} {
			for _, length := range []int{0, 1, 59999, 60000, 60001, 100000} {
				want := api.OK
				if data < 1 || data > 16 || beside < 0 || beside > 8 {
					want = api.ErrParityCount
				} else if length > 60000 {
					want = api.ErrParityLong
				}
				l, errno := parity.Split(strings.Repeat("x", length), data, beside)
				if errno != want || want != api.OK && len(l) != 0 || want == api.OK && len(l) != data+beside {
					t.Errorf("Split of %d bytes by %d and %d: %d shards, %d, want %d", length, data, beside, len(l), errno, want)
				}
			}
		}
	}
}
