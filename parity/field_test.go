package parity_test

import (
	"math"
	"slices"
	"testing"

	"strongbox/api"
	"strongbox/parity"
)

// edges are numbers about the ends of what an element may be, and of what an int may be; some of them are elements in their last bits.
var edges = []int{math.MinInt, math.MinInt + 1, -256, -255, -1, 0, 1, 2, 127, 128, 254, 255, 256, 257, 511, 512, 1 << 31, math.MaxInt - 255, math.MaxInt}

func isElement(a int) bool { return a >= 0 && a <= 255 }

func TestY1Examples(t *testing.T) {
	for _, c := range []struct {
		a, b, want int
		errno      api.Errno
	}{
		{2, 128, 29, 0}, {128, 2, 29, 0}, {255, 255, 226, 0}, {256, 0, 0, 1}, {0, 256, 0, 1}, {2, 2, 4, 0}, {3, 3, 5, 0},
	} {
		if x, errno := parity.Mul(c.a, c.b); x != c.want || errno != c.errno {
			t.Errorf("Mul(%d, %d) = %d, %d, want %d, %d", c.a, c.b, x, errno, c.want, c.errno)
		}
	}
	for _, c := range []struct {
		a, want int
		errno   api.Errno
	}{
		{2, 142, 0}, {142, 2, 0}, {1, 1, 0}, {0, 0, api.ErrParityZero},
	} {
		if x, errno := parity.Inv(c.a); x != c.want || errno != c.errno {
			t.Errorf("Inv(%d) = %d, %d, want %d, %d", c.a, x, errno, c.want, c.errno)
		}
	}
}

func TestY1AllProductsAreThoseOfPolynomials(t *testing.T) {
	for a := range 256 {
		for b := range 256 {
			if x, errno := parity.Mul(a, b); x != wantProduct(a, b) || errno != api.OK {
				t.Fatalf("Mul(%d, %d) = %d, %d, want %d", a, b, x, errno, wantProduct(a, b))
			}
		}
	}
}

func TestY1AllInverses(t *testing.T) {
	var seen []int
	for a := 1; a < 256; a++ {
		x, errno := parity.Inv(a)
		if errno != api.OK || !isElement(x) || wantProduct(a, x) != 1 {
			t.Fatalf("Inv(%d) = %d, %d, want %d", a, x, errno, wantInverse(a))
		}
		seen = append(seen, x)
	}
	slices.Sort(seen)
	if len(slices.Compact(seen)) != 255 {
		t.Errorf("there are fewer than 255 inverses")
	}
}

func TestY1WhatIsNoElement(t *testing.T) {
	for _, a := range edges {
		for _, b := range edges {
			want, refused := 0, api.ErrArg
			if isElement(a) && isElement(b) {
				want, refused = wantProduct(a, b), api.OK
			}
			if x, errno := parity.Mul(a, b); x != want || errno != refused {
				t.Errorf("Mul(%d, %d) = %d, %d, want %d, %d", a, b, x, errno, want, refused)
			}
		}
		want, refused := 0, api.ErrArg
		if a == 0 {
			refused = api.ErrParityZero
		} else if isElement(a) {
			want, refused = wantInverse(a), api.OK
		}
		if x, errno := parity.Inv(a); x != want || errno != refused {
			t.Errorf("Inv(%d) = %d, %d, want %d, %d", a, x, errno, want, refused)
		}
	}
}
