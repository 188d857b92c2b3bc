package audit_test

import (
	"slices"
	"strings"
	"testing"

	"strongbox/api"
)

// blank is so many sectors of noughts.
func blank(n int) []string { return slices.Repeat([]string{noughts(256)}, n) }

func TestA1HowManySectors(t *testing.T) {
	for _, n := range []int{0, 1, 2, 127, 1025, 1026, 5000} {
		refuses(t, "of so many sectors", blank(n), api.ErrDiskSize)
	}
	refuses(t, "of none at all", nil, api.ErrDiskSize)
	for _, n := range []int{128, 129, 1023, 1024} {
		if x := finds(t, "of noughts", blank(n), f(api.FindSuper, 0)); x != (api.Totals{}) {
			t.Errorf("of %d sectors of noughts: %+v", n, x)
		}
	}
	for n := 128; n <= 1024; n += 64 {
		h := formatted(t, n)
		if x := finds(t, "behind Format", h.d.Image()); x != (api.Totals{Capacity: plainOf(h.d.Image()).count - 2}) {
			t.Errorf("of %d sectors: %+v", n, x)
		}
	}
}

func TestA1HowManyBytesASectorHas(t *testing.T) {
	for _, n := range []int{128, 1024} {
		base := formatted(t, n).d.Image()
		for _, place := range []int{0, 1, n / 2, n - 2, n - 1} {
			for _, size := range []int{0, 1, 255, 256, 257, 512} {
				image := slices.Clone(base)
				image[place] = (image[place] + noughts(256))[:size]
				if size == 256 {
					finds(t, "of 256 bytes", image)
				} else {
					refuses(t, "of other bytes", image, api.ErrDiskBytes)
				}
			}
		}
	}
}

// A sector of another length is refused wherever it stands, also where nothing is looked at, and where there is no store.
func TestA1SectorsThatAreNotLookedAtHaveTheirBytesToo(t *testing.T) {
	for _, place := range []int{2, 17, 18, 60, 127} {
		image := furnished(t).d.Image()
		image[place] = image[place][1:]
		refuses(t, "of one byte less", image, api.ErrDiskBytes)
	}
	image := blank(128)
	image[100] += "x"
	refuses(t, "of noughts", image, api.ErrDiskBytes)
	// Bytes are not made up for by others.
	image[101] = image[101][1:]
	refuses(t, "of noughts", image, api.ErrDiskBytes)
}

func TestA1TheSizeIsToldFirst(t *testing.T) {
	refuses(t, "one short sector", []string{"x"}, api.ErrDiskSize)
	for _, n := range []int{1, 127, 1025} {
		for _, place := range []int{0, n - 1} {
			image := blank(n)
			image[place] = "short"
			refuses(t, "both wrong", image, api.ErrDiskSize)
		}
		refuses(t, "all wrong", slices.Repeat([]string{strings.Repeat("x", 257)}, n), api.ErrDiskSize)
	}
	for _, n := range []int{128, 1024} {
		refuses(t, "all wrong", slices.Repeat([]string{strings.Repeat("x", 257)}, n), api.ErrDiskBytes)
	}
}

// An image that is cut or made longer is one of another size, with another layout.
func TestA1AnImageWithASectorMoreOrLess(t *testing.T) {
	image := formatted(t, 200).d.Image()
	finds(t, "as it is", image)
	finds(t, "with one more", append(slices.Clone(image), noughts(256)), f(api.FindSuper, 0))
	finds(t, "with one less", image[:199], f(api.FindSuper, 0))
}
