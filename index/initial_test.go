package index_test

import (
	"math"
	"slices"
	"strings"
	"testing"

	"strongbox/api"
	"strongbox/index"
)

// noCounts are how many places no index has.
func noCounts() []int {
	return []int{-1, 0, 1025, -2, -5, -6, -1024, 1026, 1030, 2048, 1<<16 + 1, 1<<32 + 1, math.MaxInt, math.MaxInt - 4, math.MaxInt - 5, math.MinInt, math.MinInt + 1}
}

func TestI1InitialIsThePagesOfAnIndexInWhichNothingStands(t *testing.T) {
	for count := 1; count <= 1024; count++ {
		l, e := index.Initial(count)
		if e != api.OK || !slices.Equal(l, pages(t, count)) {
			t.Fatalf("Initial(%d) = %q, %d", count, l, e)
		}
	}
}

func TestI1InitialHasAPageForEach6OrPartOfThem(t *testing.T) {
	for _, c := range [][2]int{{1, 1}, {5, 1}, {6, 1}, {7, 2}, {11, 2}, {12, 2}, {13, 3}, {1020, 170}, {1021, 171}, {1023, 171}, {1024, 171}} {
		if l, e := index.Initial(c[0]); e != api.OK || len(l) != c[1] {
			t.Fatalf("Initial(%d) = %d pages, %d, want %d", c[0], len(l), e, c[1])
		}
	}
}

func TestI1TheBytesOfAPage(t *testing.T) {
	l, e := index.Initial(1024)
	answers(t, "Initial", e, api.OK)
	for k, s := range l {
		// Kind 4, a body of 222 bytes, the number by 4 bytes, the body and what fills it up.
		want := "SB\x04\xde\x00\x00\x00" + string([]byte{byte(k)}) + strings.Repeat("\x00", 244)
		if len(s) != 256 || s[:252] != want {
			t.Fatalf("page %d is %q", k, s)
		}
	}
}

func TestI1InitialRefusesOtherCounts(t *testing.T) {
	for _, count := range noCounts() {
		if l, e := index.Initial(count); len(l) != 0 || e != api.ErrArg {
			t.Fatalf("Initial(%d) = %q, %d, want none, ErrArg", count, l, e)
		}
	}
}

func TestR2ListsOfInitialAreTheCallers(t *testing.T) {
	for _, count := range counts() {
		a, _ := index.Initial(count)
		b, _ := index.Initial(count)
		for k := range a {
			a[k] = "x"
		}
		a = append(a[:0:cap(a)], "y")
		c, _ := index.Initial(count)
		if want := pages(t, count); !slices.Equal(b, want) || !slices.Equal(c, want) || a[0] != "y" {
			t.Fatalf("Initial(%d): %q, %q", count, b, c)
		}
	}
}
