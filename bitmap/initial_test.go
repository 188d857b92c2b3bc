package bitmap_test

import (
	"math"
	"slices"
	"strings"
	"testing"

	"strongbox/api"
	"strongbox/bitmap"
)

// noCounts are how many places no map has.
func noCounts() []int {
	return []int{-1, 0, 1025, -2, -255, -256, -1024, 1026, 1280, 2048, 1<<16 + 1, 1<<32 + 1, math.MaxInt, math.MaxInt - 254, math.MinInt, math.MinInt + 1}
}

func TestB1InitialIsThePagesOfAFreeMap(t *testing.T) {
	for count := 1; count <= 1024; count++ {
		l, e := bitmap.Initial(count)
		if e != api.OK || !slices.Equal(l, pages(t, count)) {
			t.Fatalf("Initial(%d) = %q, %d", count, l, e)
		}
	}
}

func TestB1InitialHasAPageForEach256OrPartOfThem(t *testing.T) {
	for _, c := range [][2]int{{1, 1}, {8, 1}, {255, 1}, {256, 1}, {257, 2}, {512, 2}, {513, 3}, {768, 3}, {769, 4}, {1024, 4}} {
		if l, e := bitmap.Initial(c[0]); e != api.OK || len(l) != c[1] {
			t.Fatalf("Initial(%d) = %d pages, %d, want %d", c[0], len(l), e, c[1])
		}
	}
}

func TestB1TheBytesOfAPage(t *testing.T) {
	l, e := bitmap.Initial(1024)
	answers(t, "Initial", e, api.OK)
	for k, s := range l {
		// Kind 3, a body of 32 bytes, the number by 4 bytes, the body and what fills it up.
		want := "SB\x03\x20\x00\x00\x00" + string(rune(k)) + strings.Repeat("\x00", 244)
		if len(s) != 256 || s[:252] != want {
			t.Fatalf("page %d is %q", k, s)
		}
	}
}

func TestB1InitialRefusesOtherCounts(t *testing.T) {
	for _, count := range noCounts() {
		if l, e := bitmap.Initial(count); len(l) != 0 || e != api.ErrArg {
			t.Fatalf("Initial(%d) = %q, %d, want none, ErrArg", count, l, e)
		}
	}
}

func TestR2ListsOfInitialAreTheCallers(t *testing.T) {
	for _, count := range counts() {
		a, _ := bitmap.Initial(count)
		b, _ := bitmap.Initial(count)
		for k := range a {
			a[k] = "x"
		}
		a = append(a[:0:cap(a)], "y")
		c, _ := bitmap.Initial(count)
		if want := pages(t, count); !slices.Equal(b, want) || !slices.Equal(c, want) || a[0] != "y" {
			t.Fatalf("Initial(%d): %q, %q", count, b, c)
		}
	}
}
